package tests

import (
	"fmt"
	"go/ast"
	"go/parser"
	"go/token"
	"maps"
	"math/rand"
	"path/filepath"
	"reflect"
	"runtime"
	"slices"
	"strings"
	"sync"
	"testing"
	"time"
	"unsafe"

	"loop.example/g00835/impl"
)

// A toldFunction is one that the document lists, with what it takes and tells there.
type toldFunction struct {
	name      string
	tell      any
	signature string
}

func everyFunction() []toldFunction {
	return slices.Concat(functionsOfBytesAndWords(), functionsOfBlocks(), functionsOfTexts())
}

// Chapters 1 to 5.
func functionsOfBytesAndWords() []toldFunction {
	return []toldFunction{
		{"DecText", impl.DecText, "func(int) string"},
		{"ReadDec", impl.ReadDec, "func(string) int"},
		{"Hex", impl.Hex, "func(string) string"},
		{"Unhex", impl.Unhex, "func(string) (string, bool)"},
		{"Xor", impl.Xor, "func(string, string) string"},
		{"Ones", impl.Ones, "func(string) int"},
		{"Lines", impl.Lines, "func(string) []string"},
		{"Words", impl.Words, "func(string) []string"},
		{"Twice", impl.Twice, "func(int) int"},
		{"Times", impl.Times, "func(int, int) int"},
		{"Power", impl.Power, "func(int, int) int"},
		{"Inverse", impl.Inverse, "func(int) int"},
		{"Parity", impl.Parity, "func(int) int"},
		{"Plane", impl.Plane, "func(int, []int) int"},
		{"Affine", impl.Affine, "func(int) int"},
		{"Unaffine", impl.Unaffine, "func(int) int"},
		{"Sub", impl.Sub, "func(int) int"},
		{"Unsub", impl.Unsub, "func(int) int"},
		{"SubText", impl.SubText, "func(string) string"},
		{"UnsubText", impl.UnsubText, "func(string) string"},
		{"PutWord", impl.PutWord, "func(int) string"},
		{"GetWord", impl.GetWord, "func(string, int) int"},
		{"Turn", impl.Turn, "func(int, int) int"},
		{"SubWord", impl.SubWord, "func(int) int"},
		{"Rcon", impl.Rcon, "func(int) int"},
		{"KeyOk", impl.KeyOk, "func(string) bool"},
		{"Rounds", impl.Rounds, "func(string) int"},
		{"Expand", impl.Expand, "func(string) []int"},
		{"RoundKey", impl.RoundKey, "func(string, int) string"},
		{"Unmixed", impl.Unmixed, "func(string) []int"},
	}
}

// Chapters 6 to 11.
func functionsOfBlocks() []toldFunction {
	return []toldFunction{
		{"ShiftRows", impl.ShiftRows, "func(string) string"},
		{"UnshiftRows", impl.UnshiftRows, "func(string) string"},
		{"MixColumns", impl.MixColumns, "func(string) string"},
		{"UnmixColumns", impl.UnmixColumns, "func(string) string"},
		{"Steps", impl.Steps, "func(string, string) []string"},
		{"Lock", impl.Lock, "func(string, string) string"},
		{"Unlock", impl.Unlock, "func(string, string) string"},
		{"Table", impl.Table, "func(int, int) int"},
		{"Untable", impl.Untable, "func(int, int) int"},
		{"TableRound", impl.TableRound, "func([]int, []int) []int"},
		{"LockTable", impl.LockTable, "func(string, string) string"},
		{"UnlockTable", impl.UnlockTable, "func(string, string) string"},
		{"ToPlanes", impl.ToPlanes, "func(string) impl.Planes"},
		{"FromPlanes", impl.FromPlanes, "func(impl.Planes) string"},
		{"PlaneXor", impl.PlaneXor, "func(impl.Planes, impl.Planes) impl.Planes"},
		{"PlaneTimes", impl.PlaneTimes, "func(impl.Planes, impl.Planes) impl.Planes"},
		{"PlaneSub", impl.PlaneSub, "func(impl.Planes) impl.Planes"},
		{"PlaneUnsub", impl.PlaneUnsub, "func(impl.Planes) impl.Planes"},
		{"PlaneRows", impl.PlaneRows, "func(impl.Planes, bool) impl.Planes"},
		{"PlaneColumns", impl.PlaneColumns, "func(impl.Planes, bool) impl.Planes"},
		{"PlaneKey", impl.PlaneKey, "func(string) impl.Planes"},
		{"LockSliced", impl.LockSliced, "func(string, string) string"},
		{"UnlockSliced", impl.UnlockSliced, "func(string, string) string"},
		{"LockBlocks", impl.LockBlocks, "func(int, string, string) (string, int)"},
		{"UnlockBlocks", impl.UnlockBlocks, "func(int, string, string) (string, int)"},
		{"Pad", impl.Pad, "func(string) string"},
		{"Unpad", impl.Unpad, "func(string) (string, bool)"},
		{"Count", impl.Count, "func(string, int) string"},
		{"Doubled", impl.Doubled, "func(string) string"},
	}
}

// Chapters 12 to 16.
func functionsOfTexts() []toldFunction {
	return []toldFunction{
		{"Encrypt", impl.Encrypt, "func(int, int, string, string, string) (string, int)"},
		{"Decrypt", impl.Decrypt, "func(int, int, string, string, string) (string, int)"},
		{"Size", impl.Size, "func(int, int) int"},
		{"StreamOk", impl.StreamOk, "func(impl.Stream) bool"},
		{"Begin", impl.Begin, "func(int, string, string) (impl.Stream, int)"},
		{"Feed", impl.Feed, "func(impl.Stream, string) (impl.Stream, string)"},
		{"Skip", impl.Skip, "func(impl.Stream, int) impl.Stream"},
		{"Subkeys", impl.Subkeys, "func(string) (string, string)"},
		{"Mac", impl.Mac, "func(string, string) string"},
		{"MacOk", impl.MacOk, "func(string, string, string) bool"},
		{"BlockTimes", impl.BlockTimes, "func(string, string) string"},
		{"BlockHash", impl.BlockHash, "func(string, string) string"},
		{"Seal", impl.Seal, "func(string, string, string, string) (string, int)"},
		{"Unseal", impl.Unseal, "func(string, string, string, string) (string, int)"},
		{"Wrap", impl.Wrap, "func(string, string) (string, int)"},
		{"Unwrap", impl.Unwrap, "func(string, string) (string, int)"},
		{"DeskOk", impl.DeskOk, "func(impl.Desk) bool"},
		{"Say", impl.Say, "func(impl.Desk, string) (impl.Desk, string)"},
		{"Play", impl.Play, "func(string) []string"},
	}
}

// everyConstant has those of all chapters, with what they are there.
func everyConstant() map[string][2]int {
	return map[string][2]int{
		"EnByte": {impl.EnByte, 0}, "EnTable": {impl.EnTable, 1}, "EnSlice": {impl.EnSlice, 2},
		"CoOk": {impl.CoOk, 0}, "CoEngine": {impl.CoEngine, 1}, "CoMode": {impl.CoMode, 2}, "CoKey": {impl.CoKey, 3}, "CoIv": {impl.CoIv, 4},
		"CoLength": {impl.CoLength, 5}, "CoPadding": {impl.CoPadding, 6}, "CoSeal": {impl.CoSeal, 7},
		"MoEach": {impl.MoEach, 0}, "MoChain": {impl.MoChain, 1}, "MoCount": {impl.MoCount, 2},
		"MaxWrap": {impl.MaxWrap, 64}, "MaxSay": {impl.MaxSay, 40},
	}
}

// everyCode has of each function that tells one all codes that its chapter names.
func everyCode() map[string][]int {
	return map[string][]int{
		"LockBlocks": {0, 1, 3, 5}, "UnlockBlocks": {0, 1, 3, 5}, "Encrypt": {0, 1, 2, 3, 4}, "Decrypt": {0, 1, 2, 3, 4, 5, 6},
		"Begin": {0, 1, 3, 4}, "Seal": {0, 3, 4}, "Unseal": {0, 3, 4, 5, 7}, "Wrap": {0, 3, 5}, "Unwrap": {0, 3, 5, 7},
	}
}

// exportedNames are those that the program's files declare: functions, constants, types, and all else.
func exportedNames(t *testing.T) map[string][]string {
	t.Helper()
	files, err := filepath.Glob("../impl/*.go")
	if err != nil || len(files) != 16 {
		t.Fatalf("%d files, %v", len(files), err)
	}
	names := map[string][]string{}
	add := func(kind string, name *ast.Ident) {
		if name.IsExported() {
			names[kind] = append(names[kind], name.Name)
		}
	}
	for _, file := range files {
		tree, err := parser.ParseFile(token.NewFileSet(), file, nil, 0)
		if err != nil {
			t.Fatal(err)
		}
		for _, declared := range tree.Decls {
			switch d := declared.(type) {
			case *ast.FuncDecl:
				if d.Recv == nil {
					add("func", d.Name)
				}
			case *ast.GenDecl:
				for _, spec := range d.Specs {
					switch s := spec.(type) {
					case *ast.TypeSpec:
						add("type", s.Name)
					case *ast.ValueSpec:
						for _, name := range s.Names {
							add(d.Tok.String(), name)
						}
					}
				}
			}
		}
	}
	return names
}

func holdNames(t *testing.T, kind string, got, want []string) {
	t.Helper()
	got, want = slices.Sorted(slices.Values(got)), slices.Sorted(slices.Values(want))
	if !slices.Equal(got, want) {
		t.Errorf("%s: the program has %q, not %q", kind, got, want)
	}
}

// What others can name is what the document lists.
func TestEveryFunctionIsThere(t *testing.T) {
	var functions []string
	for _, f := range everyFunction() {
		functions = append(functions, f.name)
		if got := reflect.TypeOf(f.tell).String(); got != f.signature {
			t.Errorf("%s is %s, not %s", f.name, got, f.signature)
		}
	}
	names := exportedNames(t)
	holdNames(t, "functions", names["func"], functions)
	holdNames(t, "constants", names["const"], slices.Collect(maps.Keys(everyConstant())))
	holdNames(t, "types", names["type"], []string{"Planes", "Stream", "Desk"})
	holdNames(t, "variables", names["var"], nil)
}

func TestConstantsOfAllChapters(t *testing.T) {
	for name, c := range everyConstant() {
		if c[0] != c[1] {
			t.Errorf("%s is %d, not %d", name, c[0], c[1])
		}
	}
}

func TestTypesOfAllChapters(t *testing.T) {
	var _ [8]uint64 = impl.Planes{}
	var _ struct {
		Engine           int
		Key, Block, Left string
	} = impl.Stream{}
	var _ struct {
		Engine, Mode int
		Key, Iv      string
		Stream       impl.Stream
		Open         bool
	} = impl.Desk{}
	for _, kind := range []any{impl.Planes{}, impl.Stream{}, impl.Desk{}} {
		if n := reflect.TypeOf(kind).NumMethod() + reflect.PointerTo(reflect.TypeOf(kind)).NumMethod(); n != 0 {
			t.Errorf("%T has %d methods that others can name", kind, n)
		}
	}
}

// An argumentsRow is a function with what it is given.
type argumentsRow struct {
	of        toldFunction
	arguments []any
}

func (r argumentsRow) String() string {
	return fmt.Sprintf("%s%.300q", r.of.name, fmt.Sprintf("%#v", r.arguments))
}

// anyTexts has right ones of each kind more than once, so that they often meet.
func anyTexts() []string {
	keys, blocks := slices.Repeat(threeKeys(), 4), slices.Repeat(someIvs(), 2)
	texts := slices.Concat(keys, blocks, sealIvs(), openTexts(), someLines()[:20], []string{
		"", "\x00", "-", "-1", "7", "999999999", "1000000000", "00ff", "0", "AB", "one two\tthree", "\n\n", "mode count\nlock 00\n\nopen",
		strings.Repeat("open\n", 39), strings.Repeat("open\n", 40), impl.Pad("a text"), impl.Pad(""), noughtsOf(24), noughtsOf(64), noughtsOf(72),
		everyByte()[:15], everyByte()[:17], everyByte()[:23], everyByte()[:33], everyByte()[:40], everyByte()[:41], everyByte(), manyBlocks(5),
		manyBlocks(9)[:143], manyBlocks(65), "\u00e9\u2028\U0001f512", "\xc3\x28\xe2\x82", strings.Repeat("\u00e9", 16), strings.Repeat(" \t", 9),
	})
	for i, key := range threeKeys() {
		wrap, _ := impl.Wrap(key, key)
		sealed, _ := impl.Seal(key, sealIvs()[i], "to whom", "a text")
		chained, _ := impl.Encrypt(i, impl.MoChain, key, someIvs()[i], "a text")
		texts = append(texts, wrap, sealed, chained, impl.Mac(key, "a text"), impl.Mac(key, "")[:4])
	}
	return texts
}

// anyArguments are those of each kind that a function may take.
func anyArguments() map[reflect.Type][]any {
	kinds := map[reflect.Type][]any{}
	add := func(values ...any) {
		for _, value := range values {
			kinds[reflect.TypeOf(value)] = append(kinds[reflect.TypeOf(value)], value)
		}
	}
	for _, n := range slices.Concat(extremes(), slices.Repeat([]int{0, 1, 2}, 25), []int{3, 8, 10, 16, 24, 99, 999999, 1000000, 1000001, 1000000000, 1000000001}) {
		add(n)
	}
	for _, s := range anyTexts() {
		add(s)
	}
	eight := []int{241, 227, 199, 143, 31, 62, 124, 248}
	add(eight, append(slices.Clone(eight), 5, -1), eight[:7], eight[:4], []int{-1, 1 << 32, 5, 1<<62 + 7}, []int{0, 0, 0, 0}, eight[:3], eight[:5], []int{}, []int(nil), extremes())
	add(true, false)
	for i, s := range sixtyFours() {
		if i%9 == 0 {
			add(impl.ToPlanes(s))
		}
	}
	add(impl.Planes{}, impl.Planes{1, 2, 3, 4, 5, 6, 7, 1<<64 - 1})
	for _, st := range openStreams() {
		add(st)
	}
	add(impl.Stream{}, impl.Stream{Engine: 3, Key: "k", Block: "b", Left: noughtsBlock}, impl.Stream{Engine: -1, Key: threeKeys()[0], Block: onesBlock}, impl.Stream{Left: "left"})
	for i, d := range rightDesks() {
		if i%12 == 0 || len(d.Key)%8 == 0 && i%3 == 0 {
			add(d)
		}
	}
	add(impl.Desk{Engine: 3}, impl.Desk{Mode: -1}, impl.Desk{Key: everyByte()[:41]}, impl.Desk{Iv: everyByte()}, impl.Desk{Open: true}, impl.Desk{Stream: openStreams()[3]})
	return kinds
}

// manyArguments has each single argument of each function with some others, drawn out of all that there are.
func manyArguments() []argumentsRow {
	chance := rand.New(rand.NewSource(17))
	kinds := anyArguments()
	var rows []argumentsRow
	for _, f := range everyFunction() {
		of := reflect.TypeOf(f.tell)
		for at := range of.NumIn() {
			for _, value := range kinds[of.In(at)] {
				for range 1 + of.NumIn() {
					arguments := make([]any, of.NumIn())
					for i := range arguments {
						values := kinds[of.In(i)]
						arguments[i] = values[chance.Intn(len(values))]
					}
					arguments[at] = value
					rows = append(rows, argumentsRow{f, arguments})
				}
			}
		}
	}
	return append(rows, argumentsThatFit()...)
}

// argumentsThatFit are those of which one is made of the others; what is drawn seldom meets so.
func argumentsThatFit() []argumentsRow {
	var rows []argumentsRow
	give := func(name string, arguments ...any) {
		for _, f := range everyFunction() {
			if f.name == name {
				rows = append(rows, argumentsRow{f, arguments})
			}
		}
	}
	for i, s := range openTexts() {
		key, iv := threeKeys()[i%3], someIvs()[i%len(someIvs())]
		for _, mode := range threeModes {
			x, _ := impl.Encrypt(i%3, mode, key, iv, s)
			give("Decrypt", (i+1)%3, mode, key, iv, x)
			if x != "" {
				give("Decrypt", (i+2)%3, mode, key, iv, changedBit(x, 8*len(x)-1))
			}
		}
		sealed, _ := impl.Seal(key, iv[:12], s, manyBlocks(3)[:i])
		give("Unseal", key, iv[:12], s, sealed)
		give("Unseal", key, iv[:12], s, changedBit(sealed, i))
		wrap, _ := impl.Wrap(key, key)
		give("Unwrap", key, wrap)
		give("Unwrap", key, changedBit(wrap, i))
		for n := range 20 {
			give("MacOk", key, s, (impl.Mac(key, s) + "more")[:n])
		}
		give("Unpad", impl.Pad(s))
		give("Play", "key "+impl.Hex(key)+"\nlock "+impl.Hex("x"+s)+"\niv "+impl.Hex(iv)+"\nopen\nfeed 00\nseal - "+impl.Hex("x"+s))
	}
	return rows
}

// A watchedMemory has all that one call is given, and what stands around it.
type watchedMemory struct {
	texts, textsWere [][]byte
	lists, listsWere [][]int
}

const aroundTexts = "around it"

// watched is a value like the one that is given, of which each text and list stands in memory that is watched.
func (w *watchedMemory) watched(given reflect.Value) reflect.Value {
	made := reflect.New(given.Type()).Elem()
	switch given.Kind() {
	case reflect.String:
		whole := []byte(aroundTexts + given.String() + aroundTexts)
		w.texts, w.textsWere = append(w.texts, whole), append(w.textsWere, slices.Clone(whole))
		made.SetString(unsafe.String(&whole[len(aroundTexts)], len(given.String())))
	case reflect.Slice:
		list := given.Interface().([]int)
		if list != nil {
			whole := append(slices.Clone(list), 77, 77, 77, 77, 77, 77, 77, 77)
			w.lists, w.listsWere = append(w.lists, whole), append(w.listsWere, slices.Clone(whole))
			made.Set(reflect.ValueOf(whole[:len(list)]))
		}
	case reflect.Struct:
		for i := range given.NumField() {
			made.Field(i).Set(w.watched(given.Field(i)))
		}
	default:
		made.Set(given)
	}
	return made
}

func (w *watchedMemory) writtenInto() bool {
	return !reflect.DeepEqual(w.texts, w.textsWere) || !reflect.DeepEqual(w.lists, w.listsWere)
}

// holds tells whether any text or list of an answer lies in the memory that is watched.
func (w *watchedMemory) holds(told reflect.Value) bool {
	switch told.Kind() {
	case reflect.String:
		return slices.ContainsFunc(w.texts, func(whole []byte) bool {
			return liesIn(told.String(), unsafe.String(&whole[0], len(whole)))
		})
	case reflect.Slice:
		if list, ok := told.Interface().([]int); ok && cap(list) > 0 {
			at := uintptr(unsafe.Pointer(&list[:1][0]))
			return slices.ContainsFunc(w.lists, func(whole []int) bool {
				from := uintptr(unsafe.Pointer(&whole[0]))
				return at >= from && at < from+8*uintptr(cap(whole))
			})
		}
		for i := range told.Len() {
			if w.holds(told.Index(i)) {
				return true
			}
		}
	case reflect.Struct:
		for i := range told.NumField() {
			if w.holds(told.Field(i)) {
				return true
			}
		}
	}
	return false
}

// toldOf asks a function once, and holds that it answers, and writes into none of what it is given.
func toldOf(t *testing.T, row argumentsRow) (told []any) {
	t.Helper()
	var memory watchedMemory
	var given []reflect.Value
	for _, argument := range row.arguments {
		given = append(given, memory.watched(reflect.ValueOf(argument)))
	}
	defer func() {
		if reason := recover(); reason != nil {
			t.Errorf("%s panics: %v", row, reason)
		}
	}()
	answers := reflect.ValueOf(row.of.tell).Call(given)
	if memory.writtenInto() {
		t.Errorf("%s writes into what it is given", row)
	}
	for _, answer := range answers {
		if memory.holds(answer) {
			t.Errorf("%s shares memory with what it is given", row)
		}
		told = append(told, answer.Interface())
	}
	return told
}

func isZero(told any) bool {
	v := reflect.ValueOf(told)
	return v.IsZero() || v.Kind() == reflect.Slice && v.Len() == 0
}

// holdRefusals: beside a false, or a code that refuses, all else is its zero value.
func holdRefusals(t *testing.T, row argumentsRow, told []any) {
	t.Helper()
	if len(told) != 2 {
		return
	}
	code, isCode := told[1].(int)
	ok, isOk := told[1].(bool)
	if (isCode && code != impl.CoOk || isOk && !ok) && !isZero(told[0]) {
		t.Errorf("%s = %#v beside %v", row, told[0], told[1])
	}
	if codes := everyCode()[row.of.name]; isCode != (codes != nil) || isCode && !slices.Contains(codes, code) {
		t.Errorf("%s has the code %v, which its chapter doesn't name", row, told[1])
	}
}

// Every function answers at any arguments, whatever was asked ahead and is asked at the same time, and always the same.
func TestEveryFunctionAnswersAtAnyArguments(t *testing.T) {
	running, rows := runtime.NumGoroutine(), manyArguments()
	first := make([][]any, len(rows))
	for i, row := range rows {
		first[i] = toldOf(t, row)
		holdRefusals(t, row, first[i])
	}
	for i := len(rows) - 1; i >= 0; i -= 3 {
		if again := toldOf(t, rows[i]); !reflect.DeepEqual(again, first[i]) {
			t.Errorf("%s = %.200q, and later %.200q", rows[i], fmt.Sprint(first[i]), fmt.Sprint(again))
		}
	}
	var all sync.WaitGroup
	for place := range 8 {
		all.Go(func() {
			for i := place; i < len(rows); i += 13 {
				if again := toldOf(t, rows[i]); !reflect.DeepEqual(again, first[i]) {
					t.Errorf("%s = %.200q, and beside others %.200q", rows[i], fmt.Sprint(first[i]), fmt.Sprint(again))
				}
			}
		})
	}
	all.Wait()
	// One that works beside and has said that it is done may take a moment to be gone.
	for range 2000 {
		if runtime.NumGoroutine() <= running {
			return
		}
		time.Sleep(time.Millisecond)
	}
	t.Errorf("%d work on", runtime.NumGoroutine()-running)
}

// No function stays with an empty body: each of them has more than one answer, and each code that its chapter names.
func TestEveryFunctionHasABody(t *testing.T) {
	answers, codes := map[string]map[string]bool{}, map[string][]int{}
	for _, row := range manyArguments() {
		told := toldOf(t, row)
		if answers[row.of.name] == nil {
			answers[row.of.name] = map[string]bool{}
		}
		answers[row.of.name][fmt.Sprint(told)] = true
		if code, ok := told[len(told)-1].(int); ok && len(told) == 2 {
			codes[row.of.name] = append(codes[row.of.name], code)
		}
	}
	for _, f := range everyFunction() {
		if len(answers[f.name]) < 2 {
			t.Errorf("%s always has one answer", f.name)
		}
		slices.Sort(codes[f.name])
		if got := slices.Compact(codes[f.name]); !slices.Equal(got, everyCode()[f.name]) {
			t.Errorf("%s has the codes %d, not %d", f.name, got, everyCode()[f.name])
		}
	}
}

// An empty list and nil are the same value.
func TestEmptyListsAreNil(t *testing.T) {
	four := []int{1, 2, 3, 4}
	if impl.Plane(5, nil) != impl.Plane(5, []int{}) {
		t.Error("Plane tells nil from an empty list")
	}
	for _, nothing := range [][]int{nil, {}, four[:0]} {
		if len(impl.TableRound(nothing, nothing))+len(impl.TableRound(four, nothing))+len(impl.TableRound(nothing, four)) != 0 {
			t.Error("TableRound tells something of an empty list")
		}
	}
}

// Each text that a function takes may be long; how long, no chapter says.
func TestEveryFunctionAnswersAtLongTexts(t *testing.T) {
	texts := []string{strings.Repeat("\x00", 1<<18), strings.Repeat("-\n 0", 1<<15+1), impl.Hex(manyBlocks(4096)), "lock " + strings.Repeat("6b", 1<<16)}
	kinds := anyArguments()
	for _, f := range everyFunction() {
		of := reflect.TypeOf(f.tell)
		for at := range of.NumIn() {
			if of.In(at).Kind() != reflect.String {
				continue
			}
			for i, s := range texts {
				arguments := make([]any, of.NumIn())
				for j := range arguments {
					arguments[j] = kinds[of.In(j)][0]
					if of.In(j).Kind() == reflect.Int {
						arguments[j] = (i + j) % 3
					}
				}
				if of.NumIn() > 3 || f.name == "Begin" {
					arguments[of.NumIn()-2] = someIvs()[0]
				}
				arguments[at] = s
				row := argumentsRow{f, arguments}
				holdRefusals(t, row, toldOf(t, row))
			}
		}
	}
}
