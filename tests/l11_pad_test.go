package tests

import (
	"crypto/aes"
	"crypto/cipher"
	"math"
	"math/big"
	"slices"
	"strings"
	"sync"
	"testing"

	"loop.example/g00835/impl"
)

var onesBlock, noughtsBlock = strings.Repeat("\xff", 16), strings.Repeat("\x00", 16)

// padTexts has texts that end as padded ones do, ones of all sizes and long ones.
func padTexts() []string {
	texts := append(textsOfAllSizes(), boxTexts()...)
	for n := range 34 {
		for _, sign := range []byte{0, 1, 2, 8, 15, 16, 17, 32, 255} {
			texts = append(texts, "a text ahead of it: "[:n%21]+strings.Repeat(string([]byte{sign}), n))
		}
	}
	return append(texts, "sixteen signs: "+strings.Repeat("\u00e9", 16), strings.Repeat("k", 1<<16+1), strings.Repeat("k", 1<<16-1))
}

// paddedByOne puts byte for byte behind a text until it is whole, and then tells each of them how many they are.
func paddedByOne(s string) string {
	text := append([]byte(s), 0)
	for len(text)%16 != 0 {
		text = append(text, 0)
	}
	for i := len(s); i < len(text); i++ {
		text[i] = byte(len(text) - len(s))
	}
	return string(text)
}

// unpaddedBySearch tries all beginnings of a text; no two have the same padded text.
func unpaddedBySearch(t *testing.T, x string) (string, bool) {
	t.Helper()
	found, ok := "", false
	for n := max(0, len(x)-40); n <= len(x); n++ {
		if paddedByOne(x[:n]) == x {
			if ok {
				t.Fatalf("%q comes of two texts", x)
			}
			found, ok = x[:n], true
		}
	}
	return found, ok
}

func holdUnpad(t *testing.T, x string) {
	t.Helper()
	want, there := unpaddedBySearch(t, x)
	if got, ok := impl.Unpad(x); got != want || ok != there {
		t.Errorf("Unpad of %d bytes %.70q = %.70q, %t, not %.70q, %t", len(x), x, got, ok, want, there)
	}
}

func TestPad(t *testing.T) {
	for s, want := range map[string]string{
		"":                   "\x10\x10\x10\x10\x10\x10\x10\x10\x10\x10\x10\x10\x10\x10\x10\x10",
		"a":                  "a\x0f\x0f\x0f\x0f\x0f\x0f\x0f\x0f\x0f\x0f\x0f\x0f\x0f\x0f\x0f",
		"abc":                "abc\r\r\r\r\r\r\r\r\r\r\r\r\r",
		"0123456789abcde":    "0123456789abcde\x01",
		"0123456789abcd\x02": "0123456789abcd\x02\x01",
		"0123456789abcdef":   "0123456789abcdef\x10\x10\x10\x10\x10\x10\x10\x10\x10\x10\x10\x10\x10\x10\x10\x10",
		"0123456789abcdefg":  "0123456789abcdefg\x0f\x0f\x0f\x0f\x0f\x0f\x0f\x0f\x0f\x0f\x0f\x0f\x0f\x0f\x0f",
		"\u00e9\u00e9\u00e9\u00e9\u00e9\u00e9\u00e9": "\u00e9\u00e9\u00e9\u00e9\u00e9\u00e9\u00e9\x02\x02",
		"\x00": "\x00\x0f\x0f\x0f\x0f\x0f\x0f\x0f\x0f\x0f\x0f\x0f\x0f\x0f\x0f\x0f",
	} {
		if got := impl.Pad(s); got != want {
			t.Errorf("Pad(%q) = %q, not %q", s, got, want)
		}
		if got, ok := impl.Unpad(want); got != s || !ok {
			t.Errorf("Unpad(%q) = %q, %t, not %q", want, got, ok, s)
		}
	}
}

func TestWhatIsPaddedComesBack(t *testing.T) {
	for _, s := range padTexts() {
		x := impl.Pad(s)
		if x != paddedByOne(s) || len(x)%16 != 0 || len(x) <= len(s) || len(x) > len(s)+16 {
			t.Errorf("Pad of %d bytes %.70q = %.70q", len(s), s, x)
		}
		if got, ok := impl.Unpad(x); got != s || !ok {
			t.Errorf("%d bytes %.70q come back as %.70q, %t", len(s), s, got, ok)
		}
		twice, _ := impl.Unpad(impl.Pad(x))
		if twice != x {
			t.Errorf("%d bytes %.70q, padded twice, come back once as %.70q", len(s), s, twice)
		}
	}
}

// A text that is whole has a block more behind it, and that is all of it.
func TestPadOfWholeTexts(t *testing.T) {
	for n := range 40 {
		s := manyBlocks(n)
		x := impl.Pad(s)
		if x != s+strings.Repeat("\x10", 16) {
			t.Errorf("Pad of %d whole blocks = %q", n, x)
		}
		if got, ok := impl.Unpad(x); got != s || !ok {
			t.Errorf("%d whole blocks come back as %q, %t", n, got, ok)
		}
	}
}

func TestTextsThatDifferArePaddedOtherwise(t *testing.T) {
	of := map[string]string{}
	for _, s := range padTexts() {
		x := impl.Pad(s)
		if other, there := of[x]; there && other != s {
			t.Errorf("%.70q and %.70q are padded alike", s, other)
		}
		of[x] = s
	}
}

// Of all texts here only those that Pad tells come back.
func TestOnlyWhatIsPaddedComesBack(t *testing.T) {
	for _, s := range padTexts() {
		holdUnpad(t, s)
	}
	for _, ahead := range []string{"", "0123456789abcdef", onesBlock, strings.Repeat("\x10", 16), manyBlocks(3)} {
		for b := range 256 {
			for n := range 36 {
				if n <= len(ahead)+16 {
					run := strings.Repeat(string([]byte{byte(b)}), n)
					holdUnpad(t, (ahead + noughtsBlock)[:len(ahead)+16-n]+run)
					holdUnpad(t, (ahead + "sixteen bytes :)")[:len(ahead)+16-n]+run)
				}
				holdUnpad(t, ahead+strings.Repeat(string([]byte{byte(b)}), n))
			}
		}
	}
}

// Any bit that is changed in what Pad put behind a text makes it another one's, or none's.
func TestChangedPadding(t *testing.T) {
	for n := range 36 {
		s := manyBlocks(3)[:n]
		x := []byte(impl.Pad(s))
		for at := n; at < len(x); at++ {
			for b := range 256 {
				other := slices.Clone(x)
				other[at] = byte(b)
				holdUnpad(t, string(other))
				if got, ok := impl.Unpad(string(other)); ok && got == s && other[at] != x[at] {
					t.Errorf("Unpad of %q is %q, too", other, s)
				}
			}
		}
	}
}

func TestUnpadOfTextsThatAreNone(t *testing.T) {
	whole := impl.Pad("0123456789abc")
	texts := []string{
		"", "\x00", "\x01", "\x10", "abc", "0123456789abcdef", noughtsBlock, onesBlock, whole[:15], whole[1:], whole + "x", whole + "\x03",
		"\x00" + whole, whole[:15] + "\x00", whole[:15] + "\x02\x02", whole[:15] + "\x04", whole[:15] + "\x13", whole[:15] + "\x83",
		whole[:15] + "\xff", whole[:13] + "\x02\x03\x03", whole[:13] + "\x03\x02\x03", strings.Repeat("\x11", 16), strings.Repeat("\x11", 17),
		strings.Repeat("\x11", 32), strings.Repeat("\x11", 48), strings.Repeat("\x20", 32), strings.Repeat("\x20", 64),
		strings.Repeat("\x10", 15), strings.Repeat("\x10", 17), "x" + strings.Repeat("\x10", 15), strings.Repeat("\x0f", 15),
		strings.Repeat("k", 1<<16), strings.Repeat("\x01", 1<<16-1), strings.Repeat("\x00", 1<<16),
	}
	for n := range 70 {
		if n%16 != 0 {
			texts = append(texts, strings.Repeat("\x01", n), strings.Repeat("\x02", n), paddedByOne(strings.Repeat("k", n))[:n])
		}
	}
	for _, x := range texts {
		if got, ok := impl.Unpad(x); got != "" || ok {
			t.Errorf("Unpad of %d bytes %.70q = %.70q, %t", len(x), x, got, ok)
		}
	}
}

// The empty text that was padded isn't the empty text that stands for none.
func TestUnpadOfTheEmptyText(t *testing.T) {
	if got, ok := impl.Unpad(strings.Repeat("\x10", 16)); got != "" || !ok {
		t.Errorf("the empty text comes back as %q, %t", got, ok)
	}
	if got, ok := impl.Unpad(strings.Repeat("\x10", 32)); got != strings.Repeat("\x10", 16) || !ok {
		t.Errorf("a block of bytes 16 comes back as %q, %t", got, ok)
	}
	if got, ok := impl.Unpad(strings.Repeat("\x01", 16)); got != strings.Repeat("\x01", 15) || !ok {
		t.Errorf("fifteen bytes 1 come back as %q, %t", got, ok)
	}
}

// numbersToCount has numbers on both sides of each byte's end, and large ones.
func numbersToCount() []int {
	numbers := []int{0, 1, 2, 3, 15, 16, 17, 258, 1000000000, 19088743, math.MaxInt, math.MaxInt - 1, math.MaxInt - 255, 0x0123456789abcdef}
	for k := 1; k < 63; k++ {
		numbers = append(numbers, 1<<k-1, 1<<k, 1<<k+1)
	}
	return numbers
}

// countBlocks has blocks that are full from a bit on, or up to it, besides others.
func countBlocks() []string {
	blocks := someBlocks()
	for bit := range 129 {
		low := new(big.Int).Sub(new(big.Int).Lsh(big.NewInt(1), uint(bit)), big.NewInt(1))
		high := new(big.Int).Sub(numberOfBlock(onesBlock), low)
		blocks = append(blocks, blockOfNumber(low), blockOfNumber(high))
	}
	return blocks
}

func numberOfBlock(block string) *big.Int { return new(big.Int).SetBytes([]byte(block)) }

// blockOfNumber has the lowest 128 bits of a number.
func blockOfNumber(n *big.Int) string {
	lowest := new(big.Int).And(n, numberOfBlock(onesBlock))
	return string(lowest.FillBytes(make([]byte, 16)))
}

func countedByNumbers(block string, n int) string {
	return blockOfNumber(new(big.Int).Add(numberOfBlock(block), big.NewInt(int64(n))))
}

// doubledBitByBit writes the block as 128 signs, the highest bit first.
func doubledBitByBit(block string) string {
	signs := ""
	for i := range 16 {
		for bit := 7; bit >= 0; bit-- {
			signs += string("01"[block[i]>>bit&1])
		}
	}
	moved := signs[1:] + "0"
	doubled := make([]byte, 16)
	for at, sign := range moved {
		doubled[at/8] = doubled[at/8]<<1 + byte(sign-'0')
	}
	if signs[0] == '1' {
		doubled[15] ^= 0x87
	}
	return string(doubled)
}

func TestCount(t *testing.T) {
	for _, c := range []struct {
		block string
		n     int
		want  string
	}{
		{"00000000000000000000000000000000", 0, "00000000000000000000000000000000"},
		{"00000000000000000000000000000000", 1, "00000000000000000000000000000001"},
		{"00000000000000000000000000000000", 258, "00000000000000000000000000000102"},
		{"000000000000000000000000000000ff", 1, "00000000000000000000000000000100"},
		{"0000000000000000000000000000ffff", 2, "00000000000000000000000000010001"},
		{"000000000000000000000000ffffffff", 1, "00000000000000000000000100000000"},
		{"0000000000000000ffffffffffffffff", 1, "00000000000000010000000000000000"},
		{"0000000000000000fffffffffffffffe", 1, "0000000000000000ffffffffffffffff"},
		{"0000000000000000fffffffffffffffe", 3, "00000000000000010000000000000001"},
		{"7fffffffffffffffffffffffffffffff", 1, "80000000000000000000000000000000"},
		{"00ffffffffffffffffffffffffffffff", 1, "01000000000000000000000000000000"},
		{"000102030405060708090a0b0c0d0e0f", 0x0101, "000102030405060708090a0b0c0d0f10"},
		{"f0f1f2f3f4f5f6f7f8f9fafbfcfdfeff", 1, "f0f1f2f3f4f5f6f7f8f9fafbfcfdff00"}, // as papers on counted blocks print it
		{"00000000000000000000000000000000", math.MaxInt, "00000000000000007fffffffffffffff"},
		{"00000000000000008000000000000001", math.MaxInt, "00000000000000010000000000000000"},
		{"ffffffffffffffffffffffffffffffff", 0, "ffffffffffffffffffffffffffffffff"},
		{"ffffffffffffffffffffffffffffffff", 1, "00000000000000000000000000000000"},
		{"ffffffffffffffffffffffffffffffff", 256, "000000000000000000000000000000ff"},
		{"ffffffffffffffffffffffffffffffff", math.MaxInt, "00000000000000007ffffffffffffffe"},
		{"ffffffffffffffff8000000000000001", math.MaxInt, "00000000000000000000000000000000"},
		{"ffffffffffffffff8000000000000000", math.MaxInt, "ffffffffffffffffffffffffffffffff"},
	} {
		if got := impl.Count(blockOfHex(t, c.block), c.n); got != blockOfHex(t, c.want) {
			t.Errorf("Count of %s and %d = %s, not %s", c.block, c.n, impl.Hex(got), c.want)
		}
	}
}

func TestCountIsASum(t *testing.T) {
	for _, block := range countBlocks() {
		for _, n := range numbersToCount() {
			if got, want := impl.Count(block, n), countedByNumbers(block, n); got != want {
				t.Errorf("Count of %s and %d = %s, not %s", impl.Hex(block), n, impl.Hex(got), impl.Hex(want))
			}
		}
	}
}

// One by one a number is counted as all at once, wherever on the way its end is.
func TestCountGoesOnWhereItWas(t *testing.T) {
	for _, start := range []string{noughtsBlock, onesBlock, countedByNumbers(onesBlock, math.MaxInt), "sixteen bytes :)", blockOfNumber(big.NewInt(-300))} {
		block := start
		for n := range 700 {
			if got := impl.Count(start, n); got != block {
				t.Fatalf("Count of %s and %d = %s, one by one %s", impl.Hex(start), n, impl.Hex(got), impl.Hex(block))
			}
			block = impl.Count(block, 1)
		}
		for _, n := range numbersToCount() {
			for _, m := range numbersToCount() {
				if n > math.MaxInt-m {
					continue
				}
				if got := impl.Count(impl.Count(start, n), m); got != impl.Count(start, n+m) {
					t.Errorf("Count of %s and %d, and then %d, is %s", impl.Hex(start), n, m, impl.Hex(got))
				}
			}
		}
	}
}

// From n below the end on n numbers go to nought.
func TestCountGoesRoundAtItsEnd(t *testing.T) {
	for _, n := range numbersToCount() {
		ahead := blockOfNumber(big.NewInt(-int64(n)))
		if got := impl.Count(ahead, n); got != noughtsBlock {
			t.Errorf("Count of %s and %d = %s", impl.Hex(ahead), n, impl.Hex(got))
		}
		if n > 0 && impl.Count(ahead, n-1) != onesBlock {
			t.Errorf("Count of %s and %d isn't the end", impl.Hex(ahead), n-1)
		}
		if n < math.MaxInt && impl.Count(ahead, n+1) != noughtsBlock[:15]+"\x01" {
			t.Errorf("Count of %s and %d doesn't go on behind the end", impl.Hex(ahead), n+1)
		}
	}
}

// The standard's own way of counting blocks goes round in the same places.
func TestCountAsTheStandardCounts(t *testing.T) {
	for i, key := range threeKeys() {
		standard, err := aes.NewCipher([]byte(key))
		if err != nil {
			t.Fatal(err)
		}
		for _, iv := range []string{noughtsBlock, onesBlock, onesBlock[:15] + "\xf9", onesBlock[:14] + "\xfe\xfd", "sixteen bytes :)", everyByte()[16*i:][:16]} {
			row := make([]byte, 16*600)
			cipher.NewCTR(standard, []byte(iv)).XORKeyStream(row, row)
			for n := range 600 {
				if got := impl.Lock(key, impl.Count(iv, n)); got != string(row[16*n:16*n+16]) {
					t.Fatalf("Count of %s and %d = %s", impl.Hex(iv), n, impl.Hex(impl.Count(iv, n)))
				}
			}
		}
	}
}

func TestCountOfNumbersBelowNought(t *testing.T) {
	for _, n := range append(extremes(), -1<<62, -1<<63+256, -2, -16) {
		for i, block := range countBlocks() {
			want := ""
			if n >= 0 {
				want = countedByNumbers(block, n)
			}
			if got := impl.Count(block, n); got != want {
				t.Errorf("Count of block %d and %d = %q, not %q", i, n, got, want)
			}
		}
		for _, s := range []string{"", "x", noughtsBlock[1:], noughtsBlock + "\x00"} {
			if got := impl.Count(s, n); got != "" {
				t.Errorf("Count of %q and %d = %q", s, n, got)
			}
		}
	}
}

func TestCountedTextsThatAreNoBlock(t *testing.T) {
	for _, s := range noBlocks() {
		for _, n := range []int{0, 1, 256, math.MaxInt, -1, math.MinInt} {
			if got := impl.Count(s, n); got != "" {
				t.Errorf("Count of %d bytes %.40q and %d = %q", len(s), s, n, got)
			}
		}
		if got := impl.Doubled(s); got != "" {
			t.Errorf("Doubled of %d bytes %.40q = %q", len(s), s, got)
		}
	}
}

// The last six are what papers on the standard's seals print for its three sizes of keys.
func TestDoubled(t *testing.T) {
	for _, c := range [][2]string{
		{"00000000000000000000000000000000", "00000000000000000000000000000000"},
		{"00000000000000000000000000000001", "00000000000000000000000000000002"},
		{"00000000000000000000000000000080", "00000000000000000000000000000100"},
		{"00000000000000008000000000000000", "00000000000000010000000000000000"},
		{"40000000000000000000000000000000", "80000000000000000000000000000000"},
		{"80000000000000000000000000000000", "00000000000000000000000000000087"},
		{"80000000000000000000000000000001", "00000000000000000000000000000085"},
		{"80000000000000000000000000000043", "00000000000000000000000000000001"},
		{"ffffffffffffffffffffffffffffffff", "ffffffffffffffffffffffffffffff79"},
		{"7fffffffffffffffffffffffffffffff", "fffffffffffffffffffffffffffffffe"},
		{"7df76b0c1ab899b33e42f047b91b546f", "fbeed618357133667c85e08f7236a8de"},
		{"fbeed618357133667c85e08f7236a8de", "f7ddac306ae266ccf90bc11ee46d513b"},
		{"22452d8e49a8a5939f7321ceea6d514b", "448a5b1c93514b273ee6439dd4daa296"},
		{"448a5b1c93514b273ee6439dd4daa296", "8914b63926a2964e7dcc873ba9b5452c"},
		{"e568f68194cf76d6174d4cc04310a854", "cad1ed03299eedac2e9a99808621502f"},
		{"cad1ed03299eedac2e9a99808621502f", "95a3da06533ddb585d3533010c42a0d9"},
	} {
		if got := impl.Doubled(blockOfHex(t, c[0])); got != blockOfHex(t, c[1]) {
			t.Errorf("Doubled of %s = %s, not %s", c[0], impl.Hex(got), c[1])
		}
	}
	for _, block := range countBlocks() {
		if got, want := impl.Doubled(block), doubledBitByBit(block); got != want {
			t.Errorf("Doubled of %s = %s, not %s", impl.Hex(block), impl.Hex(got), impl.Hex(want))
		}
	}
}

// One bit goes through all places, and turns what it comes to only where it leaves.
func TestDoubledAgainAndAgain(t *testing.T) {
	block := noughtsBlock[:15] + "\x01"
	for place := range 128 {
		if want := blockOfNumber(new(big.Int).Lsh(big.NewInt(1), uint(place))); block != want {
			t.Fatalf("1, doubled %d times, is %s", place, impl.Hex(block))
		}
		block = impl.Doubled(block)
	}
	if block != noughtsBlock[:15]+"\x87" {
		t.Errorf("1, doubled 128 times, is %s", impl.Hex(block))
	}
}

// What is doubled goes over sums, so that blocks that differ have doubled ones that differ.
func TestDoubledGoesOverSums(t *testing.T) {
	blocks, of := countBlocks(), map[string]string{}
	for i, a := range blocks {
		b := blocks[(i*7+3)%len(blocks)]
		if impl.Doubled(impl.Xor(a, b)) != impl.Xor(impl.Doubled(a), impl.Doubled(b)) {
			t.Errorf("Doubled doesn't go over the sum of %s and %s", impl.Hex(a), impl.Hex(b))
		}
		doubled := impl.Doubled(a)
		if other, there := of[doubled]; there && other != a {
			t.Errorf("%s and %s are doubled alike", impl.Hex(a), impl.Hex(other))
		}
		of[doubled] = a
	}
}

func holdNewMemory(t *testing.T, name, s, want string, tell func(string) string) {
	t.Helper()
	was := strings.Clone(s)
	first, second := tell(s), tell(s)
	if first != want || second != want || s != was {
		t.Errorf("%s of %.40q = %.40q and %.40q", name, was, first, second)
	}
	if liesIn(first, s) || liesIn(second, s) || liesIn(first, second) || liesIn(second, first) {
		t.Errorf("%s of %.40q is no new memory", name, s)
	}
}

func TestWholeBlocksAnswerInNewMemory(t *testing.T) {
	unpad := func(x string) string {
		s, _ := impl.Unpad(x)
		return s
	}
	for _, s := range padTexts() {
		holdNewMemory(t, "Pad", s, paddedByOne(s), impl.Pad)
		holdNewMemory(t, "Unpad", paddedByOne(s), s, unpad)
	}
	for _, block := range countBlocks() {
		for _, n := range []int{0, 1, math.MaxInt} {
			count := func(s string) string { return impl.Count(s, n) }
			holdNewMemory(t, "Count", block, countedByNumbers(block, n), count)
		}
		holdNewMemory(t, "Doubled", block, doubledBitByBit(block), impl.Doubled)
	}
	// What stands behind an argument in memory isn't reached.
	whole := everyByte()
	impl.Pad(whole[:5])
	impl.Unpad(whole[1:17])
	impl.Count(whole[100:116], 1)
	impl.Doubled(whole[200:216])
	if whole != everyByte() {
		t.Error("what stands around an argument is written into")
	}
}

func TestWholeBlocksAtTheSameTime(t *testing.T) {
	var all sync.WaitGroup
	for i := range 8 {
		all.Go(func() {
			for n := range 200 {
				s, block := manyBlocks(4)[i:][:n%56], someBlocks()[n+i]
				if x := impl.Pad(s); x != paddedByOne(s) {
					t.Errorf("at place %d Pad of %q = %q", i, s, x)
				}
				if got, ok := impl.Unpad(impl.Pad(s)); got != s || !ok {
					t.Errorf("at place %d %q comes back as %q, %t", i, s, got, ok)
				}
				if impl.Count(block, n) != countedByNumbers(block, n) || impl.Doubled(block) != doubledBitByBit(block) {
					t.Errorf("at place %d %s is counted or doubled otherwise", i, impl.Hex(block))
				}
			}
		})
	}
	all.Wait()
}
