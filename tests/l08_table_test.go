package tests

import (
	"math"
	"slices"
	"strings"
	"sync"
	"testing"

	"loop.example/g00835/impl"
)

// A tableKind is Table or Untable, with a reckoning of its words at place 0 that stands apart from the program.
type tableKind struct {
	name  string
	tell  func(int, int) int
	first [256]int
}

func bothTables(t *testing.T) []tableKind {
	t.Helper()
	there, back := tableKind{name: "Table", tell: impl.Table}, tableKind{name: "Untable", tell: impl.Untable}
	unsub := takenBack(t, subBySearch)
	for b := range 256 {
		for place, factor := range []int{2, 1, 1, 3} {
			there.first[b] |= productByDivision(factor, subBySearch(b)) << (24 - 8*place)
		}
		for place, factor := range []int{14, 9, 13, 11} {
			back.first[b] |= productByDivision(factor, unsub[b]) << (24 - 8*place)
		}
	}
	return []tableKind{there, back}
}

// A wordWay is one way of locking by words, with what it has to tell, byte by byte and as the standard does.
type wordWay struct {
	name          string
	words, single func(string, string) string
	back          bool
}

func bothWordWays() []wordWay {
	return []wordWay{
		{"LockTable", impl.LockTable, impl.Lock, false},
		{"UnlockTable", impl.UnlockTable, impl.Unlock, true},
	}
}

// roundByRows is a round that is reckoned by bytes, without tables.
func roundByRows(state, keys []int) []int {
	var made []int
	for i := range 4 {
		var column [4]int
		for r := range column {
			column[r] = int(boxed(byte(bytesOf(state[(i+r)%4])[r])))
		}
		made = append(made, mixedByRows(wordOf(column))^keys[i]&wordMask)
	}
	return made
}

// fours has lists of four words: some as they follow one another, and some that are four times the same.
func fours() [][]int {
	words := someWords()
	var lists [][]int
	for i := 0; i+4 <= len(words); i += 3 {
		lists = append(lists, slices.Clone(words[i:i+4]), slices.Repeat(words[i:i+1], 4))
	}
	return lists
}

func wordsOfBlock(s string) []int {
	var words []int
	for at := 0; at < len(s); at += 4 {
		words = append(words, impl.GetWord(s, at))
	}
	return words
}

// The words are those that programs for the standard have printed in their tables.
func TestTableAsItIsPrinted(t *testing.T) {
	for at, want := range map[[2]int]int{
		{0, 0}: 0xc66363a5, {0, 1}: 0xf87c7c84, {0, 255}: 0x2c16163a, {0, 0x52}: 0, {0, 9}: 0x02010103,
		{1, 0}: 0xa5c66363, {1, 1}: 0x84f87c7c, {1, 255}: 0x3a2c1616, {1, 0x52}: 0, {1, 9}: 0x03020101,
		{2, 0}: 0x63a5c663, {2, 1}: 0x7c84f87c, {2, 255}: 0x163a2c16, {2, 0x52}: 0, {2, 9}: 0x01030201,
		{3, 0}: 0x6363a5c6, {3, 1}: 0x7c7c84f8, {3, 255}: 0x16163a2c, {3, 0x52}: 0, {3, 9}: 0x01010302,
	} {
		if got := impl.Table(at[0], at[1]); got != want {
			t.Errorf("Table(%d, %#x) = %#x, not %#x", at[0], at[1], got, want)
		}
	}
	for at, want := range map[[2]int]int{
		{0, 0}: 0x51f4a750, {0, 1}: 0x7e416553, {0, 255}: 0xd0b85742, {0, 0x63}: 0, {0, 0x7c}: 0x0e090d0b,
		{1, 0}: 0x5051f4a7, {1, 1}: 0x537e4165, {1, 255}: 0x42d0b857, {1, 0x63}: 0, {1, 0x7c}: 0x0b0e090d,
		{2, 0}: 0xa75051f4, {2, 1}: 0x65537e41, {2, 255}: 0x5742d0b8, {2, 0x63}: 0, {2, 0x7c}: 0x0d0b0e09,
		{3, 0}: 0xf4a75051, {3, 1}: 0x4165537e, {3, 255}: 0xb85742d0, {3, 0x63}: 0, {3, 0x7c}: 0x090d0b0e,
	} {
		if got := impl.Untable(at[0], at[1]); got != want {
			t.Errorf("Untable(%d, %#x) = %#x, not %#x", at[0], at[1], got, want)
		}
	}
}

func TestTables(t *testing.T) {
	for _, kind := range bothTables(t) {
		for b, first := range kind.first {
			for k := range 4 {
				want := turnedBitByBit(first, (32-8*k)%32)
				for _, n := range namesOf(b) {
					if got := kind.tell(k, n); got != want {
						t.Errorf("%s(%d, %d) = %#x, not %#x", kind.name, k, n, got, want)
					}
				}
			}
		}
	}
}

// A place isn't a byte, nor a word: of another number nothing is left out.
func TestTablesThatAreNotThere(t *testing.T) {
	places := append(extremes(), 6, 7, 8, 24, 128, 258, 512, -252, 1<<16, 1<<31+2, 1<<32+2, 1<<32+3, 1<<33, 1<<63-256, -1<<32+2, -1<<32+3)
	for i := range 4 {
		places = append(places, 1<<8+i, 1<<16+i, 1<<61+i, 1<<62+i, math.MinInt+i)
	}
	for _, kind := range bothTables(t) {
		for _, k := range places {
			for _, b := range append(extremes(), 0x52, 0x63, 7, 128) {
				got := kind.tell(k, b)
				if there := k >= 0 && k <= 3; there && (got < 0 || got > wordMask) || !there && got != -1 {
					t.Errorf("%s(%d, %d) = %#x", kind.name, k, b, got)
				}
			}
		}
	}
}

// Four bytes of a column, each by its own table, come to the mixed column.
func TestTablesOfAColumn(t *testing.T) {
	sum := func(tell func(int, int) int, w int) int {
		made := 0
		for k, b := range bytesOf(w) {
			made ^= tell(k, b)
		}
		return made
	}
	for _, w := range someWords() {
		block := impl.PutWord(w) + impl.PutWord(w) + impl.PutWord(w) + impl.PutWord(w)
		mixed := impl.GetWord(impl.MixColumns(impl.SubText(block)), 0)
		if got := sum(impl.Table, w); got != mixed {
			t.Errorf("the tables make %#x of %#x, not %#x", got, w, mixed)
		}
		unmixed := impl.GetWord(impl.UnmixColumns(impl.UnsubText(block)), 0)
		if got := sum(impl.Untable, w); got != unmixed {
			t.Errorf("the tables back make %#x of %#x, not %#x", got, w, unmixed)
		}
	}
}

func TestTableRound(t *testing.T) {
	lists := fours()
	for i, state := range lists {
		for _, k := range []int{0, i, (i * 7) % len(lists), (i*31 + 5) % len(lists)} {
			keys := lists[k]
			if got, want := impl.TableRound(state, keys), roundByRows(state, keys); !slices.Equal(got, want) {
				t.Errorf("TableRound(%#x, %#x) = %#x, not %#x", state, keys, got, want)
			}
		}
	}
}

// It is told by Table at places that begin anew behind 3.
func TestTableRoundByTheChapter(t *testing.T) {
	for i, state := range fours() {
		keys := fours()[(i*11+3)%50]
		got := impl.TableRound(state, keys)
		for at := range 4 {
			want := keys[at]
			for k := range 4 {
				want ^= impl.Table(k, bytesOf(state[(at+k)%4])[k])
			}
			if len(got) != 4 || got[at] != want {
				t.Errorf("TableRound(%#x, %#x) = %#x, and not %#x at %d", state, keys, got, want, at)
			}
		}
	}
}

// A round of words leads from each step of a lock to the next one; the last one doesn't mix.
func TestTableRoundsAreTheSteps(t *testing.T) {
	for i, key := range someKeys() {
		words := impl.Expand(key)
		steps := impl.Steps(key, someBlocks()[i])
		for round := 1; round < len(steps); round++ {
			got := textOfWords(impl.TableRound(wordsOfBlock(steps[round-1]), words[4*round:4*round+4]))
			if same := got == steps[round]; same != (round < len(steps)-1) {
				t.Errorf("round %d of %q comes to %q, and the step to %q", round, key, got, steps[round])
			}
		}
	}
}

// Numbers that are more than words, in any place of either list, are their lowest 32 bits.
func TestTableRoundOfNumbersThatAreMore(t *testing.T) {
	lists := fours()
	for i, state := range lists {
		keys := lists[len(lists)-1-i]
		want := roundByRows(state, keys)
		for n := range wordNames(0) {
			for at := range 5 { // one place of both lists, and all of them
				moreState, moreKeys := slices.Clone(state), slices.Clone(keys)
				for place := range 4 {
					if at == place || at == 4 {
						moreState[place] = wordNames(state[place])[n]
						moreKeys[place] = wordNames(keys[place])[(n+at)%len(wordNames(0))]
					}
				}
				for _, given := range [][2][]int{{moreState, keys}, {state, moreKeys}, {moreState, moreKeys}} {
					if got := impl.TableRound(given[0], given[1]); !slices.Equal(got, want) {
						t.Errorf("TableRound(%#x, %#x) = %#x, not %#x", given[0], given[1], got, want)
					}
				}
			}
		}
	}
	if got := impl.TableRound([]int{-1, -1, -1, -1}, []int{math.MinInt, math.MaxInt, -1, 1 << 32}); !slices.Equal(got, []int{
		0x16161616, 0xe9e9e9e9, 0xe9e9e9e9, 0x16161616,
	}) {
		t.Errorf("a round of ones = %#x", got)
	}
}

func TestTableRoundOfExtremes(t *testing.T) {
	numbers := extremes()
	for i := range numbers {
		var state, keys, words, keyWords []int
		for k := range 4 {
			state = append(state, numbers[(i+k)%len(numbers)])
			keys = append(keys, numbers[(i+5*k+9)%len(numbers)])
			words, keyWords = append(words, state[k]&wordMask), append(keyWords, keys[k]&wordMask)
		}
		if got, want := impl.TableRound(state, keys), roundByRows(words, keyWords); !slices.Equal(got, want) {
			t.Errorf("TableRound(%d, %d) = %#x, not %#x", state, keys, got, want)
		}
	}
}

func TestTableRoundWhereTheyAreNotFourEach(t *testing.T) {
	for n := range 40 {
		for m := range 40 {
			got := impl.TableRound(someWords()[:n], someWords()[:m])
			if four := n == 4 && m == 4; four && len(got) != 4 || !four && len(got) != 0 {
				t.Errorf("a round of %d words and %d is %#x", n, m, got)
			}
		}
	}
	four, long := []int{1, 2, 3, 4}, make([]int, 1<<16)
	for _, bad := range [][2][]int{{nil, nil}, {nil, four}, {four, nil}, {{}, four}, {four, {}}, {long, four}, {four, long}, {long, long}} {
		if got := impl.TableRound(bad[0], bad[1]); len(got) != 0 {
			t.Errorf("a round of %d words and %d is %#x", len(bad[0]), len(bad[1]), got)
		}
	}
	// What stands in the spare room is no word of the list.
	if got := impl.TableRound(long[:3], four); len(got) != 0 {
		t.Errorf("a round of three words with spare room is %#x", got)
	}
}

// Each bit of each word counts, and a bit of a key turns the one bit that it stands at.
func TestEachBitCountsInATableRound(t *testing.T) {
	state, keys := []int{0x00112233, 0x44556677, 0x8899aabb, 0xccddeeff}, []int{0x2b7e1516, 0x28aed2a6, 0xabf71588, 0x09cf4f3c}
	was := impl.TableRound(state, keys)
	seen := map[[4]int]bool{}
	for at := range 4 {
		for bit := range 32 {
			other := slices.Clone(state)
			other[at] ^= 1 << bit
			seen[[4]int(impl.TableRound(other, keys))] = true
			otherKeys, want := slices.Clone(keys), slices.Clone(was)
			otherKeys[at] ^= 1 << bit
			want[at] ^= 1 << bit
			if got := impl.TableRound(state, otherKeys); !slices.Equal(got, want) {
				t.Errorf("with bit %d of key word %d turned the round is %#x, not %#x", bit, at, got, want)
			}
		}
	}
	if len(seen) != 128 || seen[[4]int(was)] {
		t.Errorf("of 128 states there are %d rounds", len(seen))
	}
}

func TestTableRoundAnswersInNewMemory(t *testing.T) {
	for _, four := range fours() {
		room := append(slices.Clone(four), 77, 88, 99)
		both := room[:4] // with spare room, and given for both
		first := impl.TableRound(both, both)
		second := impl.TableRound(both, both)
		want := roundByRows(four, four)
		if !slices.Equal(first, want) || !slices.Equal(room, append(slices.Clone(four), 77, 88, 99)) {
			t.Fatalf("TableRound of %#x twice = %#x, and leaves %#x", four, first, room)
		}
		for i := range first[:cap(first)] {
			first[:cap(first)][i] = -5
		}
		if !slices.Equal(second, want) || !slices.Equal(room[:4], four) || !slices.Equal(impl.TableRound(four, four), want) {
			t.Errorf("TableRound of %#x shares its list", four)
		}
		state, keys := append(slices.Clone(four), 5)[:4], append(slices.Clone(fours()[0]), 6)[:4]
		impl.TableRound(state, keys)
		if state[:5][4] != 5 || keys[:5][4] != 6 || !slices.Equal(state, four) || !slices.Equal(keys, fours()[0]) {
			t.Errorf("TableRound writes into %#x or %#x", state, keys)
		}
	}
}

func TestLockTableAsTheStandardPrints(t *testing.T) {
	for _, c := range lockCases() {
		key, block, locked := keyOfHex(t, c[0]), blockOfHex(t, c[1]), blockOfHex(t, c[2])
		if got := impl.LockTable(key, block); got != locked {
			t.Errorf("by words %s with %s is locked as %s, not %s", c[1], c[0], impl.Hex(got), c[2])
		}
		if got := impl.UnlockTable(key, locked); got != block {
			t.Errorf("by words %s with %s is unlocked as %s, not %s", c[2], c[0], impl.Hex(got), c[1])
		}
	}
}

func TestWhatIsLockedByWordsIsWhatIsLockedByteByByte(t *testing.T) {
	blocks := someBlocks()
	for _, way := range bothWordWays() {
		for i, key := range someKeys() {
			for k := range 25 {
				s := blocks[(i*23+k*37)%len(blocks)]
				got := way.words(key, s)
				if want := way.single(key, s); len(got) != 16 || got != want {
					t.Errorf("%s(%q, %q) = %q, not %q", way.name, key, s, got, want)
				}
				if want := standardLock(t, key, s, way.back); got != want {
					t.Errorf("%s(%q, %q) = %q, and the standard has %q", way.name, key, s, got, want)
				}
			}
		}
		for _, key := range threeKeys() {
			for _, s := range blocks {
				if got, want := way.words(key, s), way.single(key, s); got != want {
					t.Errorf("%s(%q, %q) = %q, not %q", way.name, key, s, got, want)
				}
			}
		}
	}
}

func TestABlockComesBackFromItsLockByWords(t *testing.T) {
	for _, key := range append(threeKeys(), someKeys()[:30]...) {
		for _, s := range someBlocks()[:150] {
			locked := impl.LockTable(key, s)
			if got := impl.UnlockTable(key, locked); got != s || impl.Unlock(key, locked) != s {
				t.Fatalf("with %q %q comes back from %q as %q", key, s, locked, got)
			}
			unlocked := impl.UnlockTable(key, s)
			if got := impl.LockTable(key, unlocked); got != s || impl.Lock(key, unlocked) != s {
				t.Fatalf("with %q %q comes from %q as %q", key, s, unlocked, got)
			}
		}
	}
}

// Of many locks, each of the one ahead, one way is taken by words and the other byte by byte.
func TestLocksOfLocksByWords(t *testing.T) {
	for _, key := range threeKeys() {
		start := strings.Repeat("\x00", 16)
		for _, way := range bothWordWays() {
			byWords, byBytes := start, start
			for i := range 500 {
				byWords, byBytes = way.words(key, byWords), way.single(key, byBytes)
				if byWords != byBytes {
					t.Fatalf("%s with %q is %q at %d, not %q", way.name, key, byWords, i, byBytes)
				}
			}
			other := impl.UnlockTable
			if way.back {
				other = impl.LockTable
			}
			for range 500 {
				byWords = other(key, byWords)
			}
			if byWords != start {
				t.Errorf("%s with %q comes back as %q", way.name, key, byWords)
			}
		}
	}
}

// Every byte at every place goes through the last round's box, and through a table ahead of it.
func TestEachByteAtEachPlaceByWords(t *testing.T) {
	for _, key := range threeKeys() {
		for at := range 16 {
			for b := range 256 {
				one := []byte("sixteen bytes :)")
				one[at] = byte(b)
				s := string(one)
				locked := impl.LockTable(key, s)
				if locked != impl.Lock(key, s) || impl.UnlockTable(key, s) != impl.Unlock(key, s) || impl.UnlockTable(key, locked) != s {
					t.Errorf("with %q %q is locked by words otherwise than byte by byte", key, s)
				}
			}
		}
	}
}

func nothingByWords(t *testing.T, key, s string) {
	t.Helper()
	for _, way := range bothWordWays() {
		if got := way.words(key, s); got != "" {
			t.Errorf("%s of %d and %d bytes = %q", way.name, len(key), len(s), got)
		}
	}
}

func TestLockTableRefusesWhatLockRefuses(t *testing.T) {
	blocks, keys := noBlocks(), threeKeys()
	for i, key := range noKeys() {
		nothingByWords(t, key, "sixteen bytes :)")
		nothingByWords(t, key, blocks[i%len(blocks)])
	}
	for i, s := range blocks {
		nothingByWords(t, keys[i%3], s)
		if len(s) < 300 {
			nothingByWords(t, keys[(i+1)%3], s)
			nothingByWords(t, keys[(i+2)%3], s)
		}
	}
	// All sizes of both: only three by one are right.
	for n := range 40 {
		for m := range 40 {
			key, s := strings.Repeat("k", n), strings.Repeat("s", m)
			for _, way := range bothWordWays() {
				if got := way.words(key, s); got != way.single(key, s) || len(got) != 0 != (impl.KeyOk(key) && m == 16) {
					t.Errorf("%s of %d and %d bytes = %q", way.name, n, m, got)
				}
			}
		}
	}
}

// Tables and keys of one call don't come into another one.
func TestLockTableKeepsNothing(t *testing.T) {
	s := "sixteen bytes :)"
	for _, way := range bothWordWays() {
		for _, key := range threeKeys() {
			want := standardLock(t, key, s, way.back)
			for _, other := range threeKeys() {
				nothingByWords(t, other, s[:15])
				nothingByWords(t, other[1:], s)
				impl.LockTable(other, strings.Repeat("\xff", 16))
				impl.UnlockTable(other, s)
				impl.TableRound([]int{1, 2, 3, 4}, []int{5, 6, 7, 8})
				if got := way.words(key, s); got != want {
					t.Errorf("%s(%q, %q) behind %q = %q", way.name, key, s, other, got)
				}
			}
		}
	}
}

func TestLockTableAnswersInNewMemory(t *testing.T) {
	for _, way := range bothWordWays() {
		for _, key := range threeKeys() {
			for _, block := range append(someBlocks()[:40], key[:16]) {
				key, s := strings.Clone(key), strings.Clone(block)
				first, second := way.words(key, s), way.words(key, s)
				if first != second || liesIn(first, second) || liesIn(first, key) || liesIn(first, s) || s != block {
					t.Errorf("%s(%q, %q) is no new memory", way.name, key, s)
				}
			}
		}
		whole := everyByte()
		if got := way.words(whole[:32], whole[16:32]); whole != everyByte() || liesIn(got, whole) {
			t.Errorf("%s reaches out of its arguments", way.name)
		}
	}
}

func TestLocksByWordsAtTheSameTime(t *testing.T) {
	var all sync.WaitGroup
	for i, key := range slices.Repeat(threeKeys(), 2) {
		all.Go(func() {
			for k, s := range someBlocks()[:60] {
				if got := impl.UnlockTable(key, impl.LockTable(key, s)); got != s || impl.LockTable(key, s[1:]) != "" {
					t.Errorf("at place %d, %d: %q comes back as %q", i, k, s, got)
				}
			}
		})
	}
	all.Wait()
}
