package tests

import (
	"math"
	"math/rand"
	"strings"
	"sync"
	"testing"

	"loop.example/g00835/impl"
)

const planeSize = 64

// A planeWay tells planes of planes, with what it has to make of the 64 bytes, by a reckoning apart from the program.
type planeWay struct {
	name string
	tell func(impl.Planes) impl.Planes
	want func(string) string
	// back takes it back.
	back func(impl.Planes) impl.Planes
}

func rowsThere(p impl.Planes) impl.Planes    { return impl.PlaneRows(p, false) }
func rowsBack(p impl.Planes) impl.Planes     { return impl.PlaneRows(p, true) }
func columnsThere(p impl.Planes) impl.Planes { return impl.PlaneColumns(p, false) }
func columnsBack(p impl.Planes) impl.Planes  { return impl.PlaneColumns(p, true) }

// boxWays are those that ask for no place: what they do, they do to each byte for itself.
func boxWays(t *testing.T) []planeWay {
	t.Helper()
	var sub [256]int
	for b := range sub {
		sub[b] = subBySearch(b)
	}
	unsub := takenBack(t, subBySearch)
	by := func(table [256]int) func(string) string {
		return func(s string) string {
			return eachPlace(s, func(b byte) byte { return byte(table[b]) })
		}
	}
	return []planeWay{
		{"PlaneSub", impl.PlaneSub, by(sub), impl.PlaneUnsub},
		{"PlaneUnsub", impl.PlaneUnsub, by(unsub), impl.PlaneSub},
	}
}

// placeWays are those that go by where a byte stands in its block.
func placeWays() []planeWay {
	return []planeWay{
		{"PlaneRows", rowsThere, blockwise(func(s string) string { return rowsMoved(s, false) }), rowsBack},
		{"PlaneRows back", rowsBack, blockwise(func(s string) string { return rowsMoved(s, true) }), rowsThere},
		{"PlaneColumns", columnsThere, blockwise(func(s string) string { return eachColumn(s, mixedByRows) }), columnsBack},
		{"PlaneColumns back", columnsBack, blockwise(func(s string) string { return eachColumn(s, unmixedByRows) }), columnsThere},
	}
}

func planeWays(t *testing.T) []planeWay {
	t.Helper()
	return append(boxWays(t), placeWays()...)
}

func eachPlace(s string, change func(byte) byte) string {
	changed := []byte(s)
	for i, b := range changed {
		changed[i] = change(b)
	}
	return string(changed)
}

// blockwise changes block by block.
func blockwise(change func(string) string) func(string) string {
	return func(s string) string {
		changed := ""
		for at := 0; at < len(s); at += 16 {
			changed += change(s[at : at+16])
		}
		return changed
	}
}

// planesBitByBit asks of each byte whether it has a bit, and never shifts one that isn't there.
func planesBitByBit(s string) impl.Planes {
	var p impl.Planes
	for i := 0; i < len(s) && i < planeSize; i++ {
		for k, bit := range []byte{1, 2, 4, 8, 16, 32, 64, 128} {
			if s[i]&bit != 0 {
				p[k] += 1 << i
			}
		}
	}
	return p
}

// bytesBitByBit takes planes apart by halves, the lowest bit first.
func bytesBitByBit(p impl.Planes) string {
	text := make([]byte, planeSize)
	for i := range text {
		for k := 7; k >= 0; k-- {
			text[i] = 2*text[i] + byte(p[k]%2)
			p[k] /= 2
		}
	}
	return string(text)
}

// sixtyFours has texts of 64 bytes: of one sign, of one that differs at each place, all bytes in order, and mixed ones.
func sixtyFours() []string {
	var texts []string
	for _, sign := range []string{"\x00", "\x01", "\x10", "\x63", "\x80", "\xff"} {
		texts = append(texts, strings.Repeat(sign, planeSize))
	}
	for at := range planeSize {
		one, lacking := make([]byte, planeSize), []byte(strings.Repeat("\xff", planeSize))
		one[at], lacking[at] = byte(at*5+1), byte(at*3)
		texts = append(texts, string(one), string(lacking))
	}
	for at := 0; at+planeSize <= 256; at += 16 {
		texts = append(texts, everyByte()[at:at+planeSize])
	}
	chance := rand.New(rand.NewSource(9))
	for range 100 {
		mixed := make([]byte, planeSize)
		chance.Read(mixed)
		texts = append(texts, string(mixed))
	}
	return append(texts, strings.Repeat("\u00e9", 32), strings.Repeat("sixteen bytes :)", 4))
}

// textsOfAllSizes has texts of 0 to 200 bytes, among them some that have no 0, and long ones.
func textsOfAllSizes() []string {
	long := strings.Repeat(everyByte()[1:], 2)
	texts := []string{strings.Repeat("\xff", 1<<16), strings.Repeat("\x00", 1<<16)}
	for n := range 201 {
		texts = append(texts, strings.Repeat("\xff", n), long[n:2*n], strings.Repeat("\x00", n))
	}
	return texts
}

func TestToPlanesByHand(t *testing.T) {
	all := uint64(math.MaxUint64)
	for s, want := range map[string]impl.Planes{
		"":                                      {},
		"\x00":                                  {},
		"\x01":                                  {1, 0, 0, 0, 0, 0, 0, 0},
		"\x80":                                  {0, 0, 0, 0, 0, 0, 0, 1},
		"\x00\x80":                              {0, 0, 0, 0, 0, 0, 0, 2},
		"\x01\x80\x03":                          {5, 4, 0, 0, 0, 0, 0, 2},
		"\x01\x02\x04\x08\x10\x20\x40\x80":      {1, 2, 4, 8, 16, 32, 64, 128},
		"\xff\xff\xff":                          {7, 7, 7, 7, 7, 7, 7, 7},
		"\u00e9":                                {3, 1, 0, 2, 0, 2, 1, 3}, // two bytes, c3 and a9
		strings.Repeat("\x00", 63) + "\x81":     {1 << 63, 0, 0, 0, 0, 0, 0, 1 << 63},
		strings.Repeat("\x00", 64) + "\xff":     {},
		strings.Repeat("\xff", 64):              {all, all, all, all, all, all, all, all},
		strings.Repeat("\x02", 64) + "\x01\x01": {0, all, 0, 0, 0, 0, 0, 0},
		strings.Repeat("\x00\x10", 16):          {0, 0, 0, 0, 0xaaaaaaaa, 0, 0, 0},
	} {
		if got := impl.ToPlanes(s); got != want {
			t.Errorf("ToPlanes(%q) = %#x, not %#x", s, got, want)
		}
	}
}

func TestFromPlanesByHand(t *testing.T) {
	all := uint64(math.MaxUint64)
	for p, want := range map[impl.Planes]string{
		{}:                                       strings.Repeat("\x00", 64),
		{1}:                                      "\x01" + strings.Repeat("\x00", 63),
		{0, 1 << 63}:                             strings.Repeat("\x00", 63) + "\x02",
		{5, 4, 0, 0, 0, 0, 0, 2}:                 "\x01\x80\x03" + strings.Repeat("\x00", 61),
		{0, 0, 0, 0, 0, 0, 0, all}:               strings.Repeat("\x80", 64),
		{all, all, all, all, all, all, all, all}: strings.Repeat("\xff", 64),
		{0xffffffff}:                             strings.Repeat("\x01", 32) + strings.Repeat("\x00", 32),
	} {
		if got := impl.FromPlanes(p); got != want {
			t.Errorf("FromPlanes(%#x) = %q, not %q", p, got, want)
		}
	}
}

func TestToPlanesAndFromPlanesBitByBit(t *testing.T) {
	for _, s := range append(textsOfAllSizes(), sixtyFours()...) {
		p := impl.ToPlanes(s)
		if want := planesBitByBit(s); p != want {
			t.Errorf("ToPlanes of %d bytes %.70q = %#x, not %#x", len(s), s, p, want)
		}
		if got, want := impl.FromPlanes(p), bytesBitByBit(p); got != want {
			t.Errorf("FromPlanes(%#x) = %q, not %q", p, got, want)
		}
	}
}

// Each bit has a place of its own among the planes, there and back.
func TestEachBitOfPlanes(t *testing.T) {
	for k := range 8 {
		for i := range planeSize {
			var one impl.Planes
			one[k] = 1 << i
			text := make([]byte, planeSize)
			text[i] = 1 << k
			if got := impl.FromPlanes(one); got != string(text) {
				t.Errorf("bit %d of plane %d stands for %q", i, k, got)
			}
			if got := impl.ToPlanes(string(text)); got != one {
				t.Errorf("bit %d of byte %d goes to %#x", k, i, got)
			}
			if got := impl.ToPlanes(string(text[:i+1])); got != one {
				t.Errorf("bit %d of the last of %d bytes goes to %#x", k, i+1, got)
			}
		}
	}
}

func TestPlanesComeBackFromTheirBytes(t *testing.T) {
	for _, s := range append(textsOfAllSizes(), sixtyFours()...) {
		want := (s + strings.Repeat("\x00", planeSize))[:planeSize]
		got := impl.FromPlanes(impl.ToPlanes(s))
		if got != want {
			t.Errorf("%d bytes %.70q come back as %q", len(s), s, got)
		}
	}
	chance := rand.New(rand.NewSource(90))
	for range 300 {
		var p impl.Planes
		for k := range p {
			p[k] = chance.Uint64()
		}
		if got := impl.ToPlanes(impl.FromPlanes(p)); got != p {
			t.Errorf("%#x comes back as %#x", p, got)
		}
	}
}

// Bytes that a text hasn't are 0, also where it is cut from one that has them; those behind the 64th don't count.
func TestBytesThatAreNotThere(t *testing.T) {
	whole := strings.Repeat("\xff\x5a", 100)
	for n := range 201 {
		cut := min(n, planeSize)
		want := whole[:cut] + strings.Repeat("\x00", planeSize-cut)
		p := impl.ToPlanes(whole[:n])
		if p != planesBitByBit(want) || impl.FromPlanes(p) != want {
			t.Errorf("of %d bytes the planes are %#x", n, p)
		}
		for _, more := range []string{"\x00", strings.Repeat("\x00", planeSize)} {
			if impl.ToPlanes(whole[:n]+more) != p {
				t.Errorf("of %d bytes the planes are other ones with noughts behind", n)
			}
		}
		if n >= planeSize && p != impl.ToPlanes(whole[:planeSize]) {
			t.Errorf("of %d bytes more than 64 count", n)
		}
	}
}

// Where bytes aren't there, they are worked as noughts are.
func TestWaysOfBytesThatAreNotThere(t *testing.T) {
	for _, way := range planeWays(t) {
		for _, n := range []int{0, 1, 3, 15, 16, 17, 33, 63} {
			s := sixtyFours()[len(sixtyFours())-3][:n]
			if got, want := impl.FromPlanes(way.tell(impl.ToPlanes(s))), way.want(s+strings.Repeat("\x00", planeSize-n)); got != want {
				t.Errorf("%s of %d bytes %q = %q, not %q", way.name, n, s, got, want)
			}
		}
	}
	none := impl.ToPlanes("")
	if impl.PlaneXor(none, none) != none || impl.PlaneTimes(none, impl.ToPlanes("ab")) != none || impl.PlaneTimes(impl.ToPlanes("ab"), none) != none {
		t.Error("no bytes come to some")
	}
	if got := impl.FromPlanes(impl.PlaneSub(none)); got != strings.Repeat("\x63", planeSize) {
		t.Errorf("PlaneSub of no bytes = %q", got)
	}
	if got := impl.FromPlanes(impl.PlaneUnsub(none)); got != strings.Repeat("\x52", planeSize) {
		t.Errorf("PlaneUnsub of no bytes = %q", got)
	}
	if got := impl.FromPlanes(impl.PlaneTimes(impl.ToPlanes("\x57\x02"), impl.ToPlanes("\x83"))); got != "\xc1"+strings.Repeat("\x00", 63) {
		t.Errorf("a product with a byte that isn't there = %q", got)
	}
}

// pairsOfBytes has all pairs of bytes, 64 at once; which place a pair has hangs on from.
func pairsOfBytes(from int) [][2]string {
	var pairs [][2]string
	for a := range 256 {
		for at := 0; at < 256; at += planeSize {
			left, right := make([]byte, planeSize), make([]byte, planeSize)
			for i := range planeSize {
				left[i], right[i] = byte(a+i), byte(at+(i+from)%planeSize)
			}
			pairs = append(pairs, [2]string{string(left), string(right)})
		}
	}
	return pairs
}

func TestPlaneXor(t *testing.T) {
	for _, pair := range pairsOfBytes(0) {
		want := make([]byte, planeSize)
		for i := range want {
			want[i] = pair[0][i] ^ pair[1][i]
		}
		p, q := impl.ToPlanes(pair[0]), impl.ToPlanes(pair[1])
		got := impl.PlaneXor(p, q)
		if impl.FromPlanes(got) != string(want) || impl.FromPlanes(got) != impl.Xor(pair[0], pair[1]) {
			t.Fatalf("PlaneXor of %q and %q is %q", pair[0], pair[1], impl.FromPlanes(got))
		}
		if impl.PlaneXor(q, p) != got || impl.PlaneXor(got, q) != p || impl.PlaneXor(p, p) != (impl.Planes{}) || impl.PlaneXor(p, impl.Planes{}) != p {
			t.Fatalf("PlaneXor of %q and %q doesn't come back", pair[0], pair[1])
		}
	}
}

func TestPlaneTimes(t *testing.T) {
	var products [256][256]byte
	for a := range 256 {
		for b := range 256 {
			products[a][b] = byte(productByDivision(a, b))
		}
	}
	for _, from := range []int{0, 1, 37} {
		for _, pair := range pairsOfBytes(from) {
			want := make([]byte, planeSize)
			for i := range want {
				want[i] = products[pair[0][i]][pair[1][i]]
			}
			p, q := impl.ToPlanes(pair[0]), impl.ToPlanes(pair[1])
			if got := impl.FromPlanes(impl.PlaneTimes(p, q)); got != string(want) {
				t.Fatalf("PlaneTimes of %q and %q is %q, not %q", pair[0], pair[1], got, want)
			}
			if impl.PlaneTimes(p, q) != impl.PlaneTimes(q, p) {
				t.Fatalf("PlaneTimes of %q and %q asks for the order", pair[0], pair[1])
			}
		}
	}
}

func TestPlaneTimesIsTimes(t *testing.T) {
	texts := sixtyFours()
	ones := impl.ToPlanes(strings.Repeat("\x01", planeSize))
	for i, a := range texts {
		b, c := texts[(i*13+5)%len(texts)], texts[(i*29+11)%len(texts)]
		p, q, r := impl.ToPlanes(a), impl.ToPlanes(b), impl.ToPlanes(c)
		product := impl.PlaneTimes(p, q)
		for at := range planeSize {
			if want := impl.Times(int(a[at]), int(b[at])); int(impl.FromPlanes(product)[at]) != want {
				t.Errorf("%d times %d at %d is %d, not %d", a[at], b[at], at, impl.FromPlanes(product)[at], want)
			}
		}
		if impl.PlaneTimes(p, ones) != p || impl.PlaneTimes(ones, p) != p || impl.PlaneTimes(p, impl.Planes{}) != (impl.Planes{}) {
			t.Errorf("%q times one, or times nought, is another", a)
		}
		if impl.PlaneTimes(product, r) != impl.PlaneTimes(p, impl.PlaneTimes(q, r)) {
			t.Errorf("the product of %q, %q and %q hangs on what is multiplied first", a, b, c)
		}
		if impl.PlaneTimes(p, impl.PlaneXor(q, r)) != impl.PlaneXor(product, impl.PlaneTimes(p, r)) {
			t.Errorf("the product of %q doesn't go over the sum of %q and %q", a, b, c)
		}
	}
}

// Each of the 256 bytes stands at each of the 64 places.
func TestEachByteAtEachPlaceOfTheBox(t *testing.T) {
	for _, way := range boxWays(t) {
		for from := range 256 {
			text := make([]byte, planeSize)
			for i := range text {
				text[i] = byte(from + i)
			}
			s := string(text)
			if got, want := impl.FromPlanes(way.tell(impl.ToPlanes(s))), way.want(s); got != want {
				t.Errorf("%s of %q = %q, not %q", way.name, s, got, want)
			}
		}
	}
}

func TestPlaneWays(t *testing.T) {
	for _, way := range planeWays(t) {
		for _, s := range sixtyFours() {
			p := impl.ToPlanes(s)
			told := way.tell(p)
			if got, want := impl.FromPlanes(told), way.want(s); got != want {
				t.Errorf("%s of %q = %q, not %q", way.name, s, got, want)
			}
			if told != planesBitByBit(way.want(s)) {
				t.Errorf("%s of %q has the planes %#x", way.name, s, told)
			}
			if way.back(told) != p || way.tell(way.back(p)) != p {
				t.Errorf("%s of %q doesn't come back", way.name, s)
			}
		}
	}
}

// What is done by planes is what the functions of the chapters ahead do to each byte, or to each block.
func TestPlaneWaysAreWhatTheChaptersAheadDo(t *testing.T) {
	ways := map[string]struct {
		tell func(impl.Planes) impl.Planes
		want func(string) string
	}{
		"SubText": {impl.PlaneSub, impl.SubText}, "UnsubText": {impl.PlaneUnsub, impl.UnsubText},
		"ShiftRows": {rowsThere, blockwise(impl.ShiftRows)}, "UnshiftRows": {rowsBack, blockwise(impl.UnshiftRows)},
		"MixColumns": {columnsThere, blockwise(impl.MixColumns)}, "UnmixColumns": {columnsBack, blockwise(impl.UnmixColumns)},
	}
	for name, way := range ways {
		for _, s := range sixtyFours() {
			if got, want := impl.FromPlanes(way.tell(impl.ToPlanes(s))), way.want(s); got != want {
				t.Errorf("%s by planes of %q = %q, not %q", name, s, got, want)
			}
		}
	}
}

// The blocks and columns are those that the standard prints, each at each of the four places.
func TestPlaneRowsAndColumnsAsTheStandardPrints(t *testing.T) {
	for _, c := range []struct{ from, shifted, mixed string }{
		{"d42711aee0bf98f1b8b45de51e415230", "d4bf5d30e0b452aeb84111f11e2798e5", "046681e5e0cb199a48f8d37a2806264c"},
		{"63cab7040953d051cd60e0e7ba70e18c", "6353e08c0960e104cd70b751bacad0e7", "5f72641557f5bc92f7be3b291db9f91a"},
	} {
		from, shifted, mixed := blockOfHex(t, c.from), blockOfHex(t, c.shifted), blockOfHex(t, c.mixed)
		for at := range 4 {
			ahead, behind := strings.Repeat("\x00", 16*at), strings.Repeat("\x00", 48-16*at)
			p := impl.ToPlanes(ahead + from + behind)
			rows := rowsThere(p)
			if got := impl.FromPlanes(rows); got != ahead+shifted+behind {
				t.Errorf("rows of block %d, %s, go to %s", at, c.from, impl.Hex(got))
			}
			columns := columnsThere(rows)
			if got := impl.FromPlanes(columns); got != ahead+mixed+behind {
				t.Errorf("columns of block %d, %s, go to %s", at, c.shifted, impl.Hex(got))
			}
			if columnsBack(columns) != rows || rowsBack(rows) != p {
				t.Errorf("block %d, %s, doesn't come back", at, c.from)
			}
		}
	}
}

// A byte that stands alone goes to its place, and comes from there; no other block has anything of it.
func TestPlaneRowsByteByByte(t *testing.T) {
	for block := range 4 {
		for r := range 4 {
			for c := range 4 {
				one, want := make([]byte, planeSize), make([]byte, planeSize)
				one[16*block+4*((c+r)%4)+r] = 0xa7
				want[16*block+4*c+r] = 0xa7
				if got := impl.FromPlanes(rowsThere(impl.ToPlanes(string(one)))); got != string(want) {
					t.Errorf("what stands in row %d of block %d goes to %q, not to column %d", r, block, got, c)
				}
				if got := impl.FromPlanes(rowsBack(impl.ToPlanes(string(want)))); got != string(one) {
					t.Errorf("what stands in row %d, column %d of block %d goes back to %q", r, c, block, got)
				}
			}
		}
	}
}

func TestPlaneColumnsByteByByte(t *testing.T) {
	for at := range planeSize {
		for _, b := range []byte{1, 2, 0x40, 0x80, 0x9d, 0xff} {
			one := make([]byte, planeSize)
			one[at] = b
			for _, way := range placeWays()[2:] {
				if got, want := impl.FromPlanes(way.tell(impl.ToPlanes(string(one)))), way.want(string(one)); got != want {
					t.Errorf("%s of %d at %d = %q, not %q", way.name, b, at, got, want)
				}
			}
		}
	}
}

// A block is worked as it is, whatever stands beside it.
func TestBlocksOfPlanesAreWorkedByThemselves(t *testing.T) {
	blocks := someBlocks()
	for _, way := range planeWays(t) {
		for i, s := range blocks {
			alone := impl.FromPlanes(way.tell(impl.PlaneKey(s)))[:16]
			for at := range 4 {
				four := []string{blocks[(i*3+7)%len(blocks)], blocks[(i*5+1)%len(blocks)], blocks[(i*11+2)%len(blocks)], blocks[(i*17+9)%len(blocks)]}
				four[at] = s
				got := impl.FromPlanes(way.tell(impl.ToPlanes(strings.Join(four, ""))))
				if got[16*at:16*at+16] != alone {
					t.Errorf("%s of %q at place %d beside others = %q, not %q", way.name, s, at, got, alone)
				}
			}
		}
	}
}

// Sums go through what shifts and mixes; four times either is nothing.
func TestPlaneRowsAndColumnsGoOverSums(t *testing.T) {
	texts := sixtyFours()
	for _, way := range placeWays() {
		for i, a := range texts {
			p, q := impl.ToPlanes(a), impl.ToPlanes(texts[(i*7+3)%len(texts)])
			if way.tell(impl.PlaneXor(p, q)) != impl.PlaneXor(way.tell(p), way.tell(q)) {
				t.Errorf("%s of %q doesn't go over sums", way.name, a)
			}
			if way.tell(way.tell(way.tell(way.tell(p)))) != p {
				t.Errorf("four times %s of %q is another", way.name, a)
			}
		}
	}
}

func TestPlaneWaysAndTheirWaysBackDiffer(t *testing.T) {
	p := impl.ToPlanes(everyByte()[:planeSize])
	seen := map[impl.Planes]string{p: "nothing"}
	for _, way := range planeWays(t) {
		got := way.tell(p)
		if other, ok := seen[got]; ok {
			t.Errorf("%s tells the same as %s", way.name, other)
		}
		seen[got] = way.name
	}
}

func TestPlaneKey(t *testing.T) {
	want := impl.Planes{0: 0x0005000500050005, 1: 0x0004000400040004, 7: 0x0002000200020002}
	if got := impl.PlaneKey("\x01\x80\x03" + strings.Repeat("\x00", 13)); got != want {
		t.Errorf("PlaneKey = %#x, not %#x", got, want)
	}
	for _, s := range someBlocks() {
		got := impl.PlaneKey(s)
		if got != planesBitByBit(strings.Repeat(s, 4)) || impl.FromPlanes(got) != s+s+s+s {
			t.Errorf("PlaneKey(%q) = %q", s, impl.FromPlanes(got))
		}
	}
}

// Also four blocks are no block, nor is one with a byte more.
func TestPlaneKeyOfWhatIsNoBlock(t *testing.T) {
	for _, s := range append(noBlocks(), strings.Repeat("\xff", planeSize), strings.Repeat("\xff", 15), strings.Repeat("\xff", 17)) {
		if got := impl.PlaneKey(s); got != (impl.Planes{}) {
			t.Errorf("PlaneKey of %d bytes = %#x", len(s), got)
		}
	}
}

// lockedByPlanes locks four blocks at once with a right key.
func lockedByPlanes(key, s string) string {
	p := impl.PlaneXor(impl.ToPlanes(s), impl.PlaneKey(impl.RoundKey(key, 0)))
	for i := 1; i <= impl.Rounds(key); i++ {
		p = rowsThere(impl.PlaneSub(p))
		if i < impl.Rounds(key) {
			p = columnsThere(p)
		}
		p = impl.PlaneXor(p, impl.PlaneKey(impl.RoundKey(key, i)))
	}
	return impl.FromPlanes(p)
}

func unlockedByPlanes(key, s string) string {
	p := impl.ToPlanes(s)
	for i := impl.Rounds(key); i > 0; i-- {
		p = impl.PlaneXor(p, impl.PlaneKey(impl.RoundKey(key, i)))
		if i < impl.Rounds(key) {
			p = columnsBack(p)
		}
		p = impl.PlaneUnsub(rowsBack(p))
	}
	return impl.FromPlanes(impl.PlaneXor(p, impl.PlaneKey(impl.RoundKey(key, 0))))
}

// Rounds of planes lock as the standard does: what is done to them is done to all bytes.
func TestRoundsOfPlanesLockAsTheStandardDoes(t *testing.T) {
	for i, key := range append(threeKeys(), someKeys()...) {
		s := sixtyFours()[(i*7+40)%len(sixtyFours())]
		there := blockwise(func(block string) string { return standardLock(t, key, block, false) })(s)
		back := blockwise(func(block string) string { return standardLock(t, key, block, true) })(s)
		if got := lockedByPlanes(key, s); got != there {
			t.Errorf("by planes with %q %q is locked as %q, not %q", key, s, got, there)
		}
		if got := unlockedByPlanes(key, s); got != back {
			t.Errorf("by planes with %q %q is unlocked as %q, not %q", key, s, got, back)
		}
		if got := unlockedByPlanes(key, there); got != s {
			t.Errorf("by planes with %q %q comes back as %q", key, s, got)
		}
	}
}

func TestPlanesThatAreGivenStayAsTheyAre(t *testing.T) {
	for _, s := range sixtyFours() {
		p, q := impl.ToPlanes(s), impl.ToPlanes(everyByte()[100:])
		wasP, wasQ := p, q
		first := []impl.Planes{impl.PlaneXor(p, q), impl.PlaneTimes(p, q), impl.PlaneTimes(p, p)}
		for _, way := range planeWays(t) {
			first = append(first, way.tell(p))
		}
		impl.FromPlanes(p)
		again := []impl.Planes{impl.PlaneXor(p, q), impl.PlaneTimes(p, q), impl.PlaneTimes(p, p)}
		for _, way := range planeWays(t) {
			again = append(again, way.tell(p))
		}
		for i := range first {
			if first[i] != again[i] {
				t.Errorf("of %q answer %d is another the second time", s, i)
			}
		}
		if p != wasP || q != wasQ {
			t.Errorf("the planes of %q are written into", s)
		}
	}
}

func TestTextsOfPlanesAreNew(t *testing.T) {
	for _, s := range append(sixtyFours(), textsOfAllSizes()...) {
		was := strings.Clone(s)
		p := impl.ToPlanes(s)
		first, second := impl.FromPlanes(p), impl.FromPlanes(p)
		if len(first) != planeSize || first != second || liesIn(first, second) || liesIn(first, s) {
			t.Errorf("FromPlanes of %.70q is no new memory", s)
		}
		impl.PlaneKey(s)
		if s != was || impl.ToPlanes(s) != p {
			t.Errorf("%.70q is written into", was)
		}
	}
}

func TestPlanesAtTheSameTime(t *testing.T) {
	var all sync.WaitGroup
	for i, key := range append(threeKeys(), threeKeys()...) {
		all.Go(func() {
			for _, s := range sixtyFours()[i*20:][:20] {
				if got := unlockedByPlanes(key, lockedByPlanes(key, s)); got != s {
					t.Errorf("at place %d %q comes back as %q", i, s, got)
				}
			}
		})
	}
	all.Wait()
}
