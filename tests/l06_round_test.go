package tests

import (
	"crypto/aes"
	"math/rand"
	"strings"
	"testing"

	"loop.example/g00835/impl"
)

// roundSteps are the four functions of a round that take a block, by their names.
func roundSteps() map[string]func(string) string {
	return map[string]func(string) string{
		"ShiftRows": impl.ShiftRows, "UnshiftRows": impl.UnshiftRows,
		"MixColumns": impl.MixColumns, "UnmixColumns": impl.UnmixColumns,
	}
}

// someBlocks has blocks of one sign, of one bit, of one byte at each place, of ascending and of mixed bytes.
func someBlocks() []string {
	var blocks []string
	for _, sign := range []string{"\x00", "\x01", "\n", " ", "\x7f", "\x80", "\xc3", "\xff"} {
		blocks = append(blocks, strings.Repeat(sign, 16))
	}
	for bit := range 128 {
		one, lacking := make([]byte, 16), []byte(strings.Repeat("\xff", 16))
		one[bit/8] |= 1 << (bit % 8)
		lacking[bit/8] ^= 1 << (bit % 8)
		blocks = append(blocks, string(one), string(lacking))
	}
	for at := 0; at+16 <= 256; at += 5 {
		blocks = append(blocks, everyByte()[at:at+16])
	}
	chance := rand.New(rand.NewSource(6))
	for range 200 {
		mixed := make([]byte, 16)
		chance.Read(mixed)
		blocks = append(blocks, string(mixed))
	}
	return append(blocks, "sixteen bytes :)", strings.Repeat("\u00e9", 8))
}

// noBlocks has a text of each size but 16, blocks with a byte too few and too many, and long texts.
func noBlocks() []string {
	var texts []string
	for n := range 140 {
		if n != 16 {
			texts = append(texts, strings.Repeat("\x00", n), everyByte()[100:][:n])
		}
	}
	for _, block := range someBlocks() {
		texts = append(texts, block[1:], block[:15], block+"\x00", "\n"+block, block+block)
	}
	// Bytes count, not signs: this one has 16 signs.
	return append(texts, strings.Repeat("\u00e9", 16), strings.Repeat("k", 1<<16), strings.Repeat("k", 1<<16+16))
}

func blockOfHex(t *testing.T, s string) string {
	t.Helper()
	block, ok := impl.Unhex(s)
	if !ok || len(block) != 16 {
		t.Fatalf("%q is no block", s)
	}
	return block
}

// rowsMoved cuts a block in four rows, takes from each as many bytes as its number off one end, and sets them at the other.
func rowsMoved(s string, back bool) string {
	var rows [4]string
	for at := range 16 {
		rows[at%4] += s[at : at+1]
	}
	for r, row := range rows {
		cut := r
		if back {
			cut = 4 - r
		}
		rows[r] = row[cut:] + row[:cut]
	}
	moved := ""
	for c := range 4 {
		for r := range 4 {
			moved += rows[r][c : c+1]
		}
	}
	return moved
}

func TestShiftRows(t *testing.T) {
	for _, c := range []struct{ from, to string }{
		{"000102030405060708090a0b0c0d0e0f", "00050a0f04090e03080d02070c01060b"},
		{"d42711aee0bf98f1b8b45de51e415230", "d4bf5d30e0b452aeb84111f11e2798e5"}, // as the standard prints it
		{"63cab7040953d051cd60e0e7ba70e18c", "6353e08c0960e104cd70b751bacad0e7"},
		{"00010203000102030001020300010203", "00010203000102030001020300010203"},
		{"00000000ff00000000000000000000ff", "000000ffff0000000000000000000000"},
	} {
		from, to := blockOfHex(t, c.from), blockOfHex(t, c.to)
		if got := impl.ShiftRows(from); got != to {
			t.Errorf("ShiftRows of %s = %s, not %s", c.from, impl.Hex(got), c.to)
		}
		if got := impl.UnshiftRows(to); got != from {
			t.Errorf("UnshiftRows of %s = %s, not %s", c.to, impl.Hex(got), c.from)
		}
	}
	for _, s := range someBlocks() {
		if got := impl.ShiftRows(s); got != rowsMoved(s, false) {
			t.Errorf("ShiftRows(%q) = %q", s, got)
		}
		if got := impl.UnshiftRows(s); got != rowsMoved(s, true) {
			t.Errorf("UnshiftRows(%q) = %q", s, got)
		}
	}
}

// The byte of row r, column c comes from column c and r; that of no other place changes it.
func TestShiftRowsByteByByte(t *testing.T) {
	for r := range 4 {
		for c := range 4 {
			from, to := 4*((c+r)%4)+r, 4*c+r
			one := []byte(strings.Repeat("\x00", 16))
			one[from] = 0xa5
			want := []byte(strings.Repeat("\x00", 16))
			want[to] = 0xa5
			if got := impl.ShiftRows(string(one)); got != string(want) {
				t.Errorf("what stands at %d goes to %q, not to %d", from, got, to)
			}
			if got := impl.UnshiftRows(string(want)); got != string(one) {
				t.Errorf("what stands at %d goes back to %q, not to %d", to, got, from)
			}
		}
	}
}

func TestMixColumns(t *testing.T) {
	for _, c := range []struct{ from, to string }{
		{"db135345f20a225c01010101c6c6c6c6", "8e4da1bc9fdc589d01010101c6c6c6c6"},
		{"d4bf5d30e0b452aeb84111f11e2798e5", "046681e5e0cb199a48f8d37a2806264c"}, // as the standard prints it
		{"6353e08c0960e104cd70b751bacad0e7", "5f72641557f5bc92f7be3b291db9f91a"},
		{"d4d4d4d52d26314c0000000000000001", "d5d5d7d64d7ebdf80000000001010302"},
		{"01000000000100000000010000000001", "02010103030201010103020101010302"},
		{"80000000008000000000800000000080", "1b80809b9b1b8080809b1b8080809b1b"},
	} {
		from, to := blockOfHex(t, c.from), blockOfHex(t, c.to)
		if got := impl.MixColumns(from); got != to {
			t.Errorf("MixColumns of %s = %s, not %s", c.from, impl.Hex(got), c.to)
		}
		if got := impl.UnmixColumns(to); got != from {
			t.Errorf("UnmixColumns of %s = %s, not %s", c.to, impl.Hex(got), c.from)
		}
	}
	for _, s := range someBlocks() {
		if got := impl.MixColumns(s); got != eachColumn(s, mixedByRows) {
			t.Errorf("MixColumns(%q) = %q", s, got)
		}
		if got := impl.UnmixColumns(s); got != eachColumn(s, unmixedByRows) {
			t.Errorf("UnmixColumns(%q) = %q", s, got)
		}
	}
}

func TestEachByteOfAColumnIsMixed(t *testing.T) {
	for at := range 16 {
		for b := range 256 {
			one := make([]byte, 16)
			one[at] = byte(b)
			if got := impl.MixColumns(string(one)); got != eachColumn(string(one), mixedByRows) {
				t.Errorf("%d at %d is mixed to %q", b, at, got)
			}
			if got := impl.UnmixColumns(string(one)); got != eachColumn(string(one), unmixedByRows) {
				t.Errorf("%d at %d is unmixed to %q", b, at, got)
			}
		}
	}
}

// A column is mixed by itself: what stands in the others makes no difference, be they like it or not.
func TestColumnsAreMixedByThemselves(t *testing.T) {
	tells := map[string]func(string) string{"MixColumns": impl.MixColumns, "UnmixColumns": impl.UnmixColumns}
	for name, tell := range tells {
		for i, s := range someBlocks() {
			other := someBlocks()[(i*7+3)%len(someBlocks())]
			alone := s[:4] + strings.Repeat("\x00", 12)
			for _, rest := range []string{other[4:], s[:4] + other[8:], s[:4] + s[:4] + other[12:], s[:4] + s[:4] + s[:4]} {
				for c := range 4 {
					block := s[:4] + rest
					block = block[16-4*c:] + block[:16-4*c] // the column stands at c
					if got, want := tell(block), tell(alone)[:4]; got[4*c:4*c+4] != want {
						t.Errorf("%s of %q has no %q at column %d", name, block, want, c)
					}
				}
			}
		}
	}
}

func TestWhatIsShiftedOrMixedComesBack(t *testing.T) {
	for _, s := range someBlocks() {
		for name, got := range map[string]string{
			"shifted and unshifted": impl.UnshiftRows(impl.ShiftRows(s)), "unshifted and shifted": impl.ShiftRows(impl.UnshiftRows(s)),
			"mixed and unmixed": impl.UnmixColumns(impl.MixColumns(s)), "unmixed and mixed": impl.MixColumns(impl.UnmixColumns(s)),
		} {
			if got != s {
				t.Errorf("%q, %s, is %q", s, name, got)
			}
		}
		for name, step := range roundSteps() {
			four := step(step(step(step(s))))
			if four != s {
				t.Errorf("%q, four times %s, is %q", s, name, four)
			}
		}
	}
}

// Where the rows shift or the columns mix the wrong way round, one step would be its own way back.
func TestStepsAndTheirWaysBackDiffer(t *testing.T) {
	s := everyByte()[:16]
	seen := map[string]string{s: "nothing"}
	for name, step := range roundSteps() {
		got := step(s)
		if other, ok := seen[got]; ok {
			t.Errorf("%s tells the same as %s", name, other)
		}
		seen[got] = name
		if step(got) == s {
			t.Errorf("%s takes itself back", name)
		}
	}
}

func TestWhatIsMixedGoesOverSums(t *testing.T) {
	blocks := someBlocks()
	for name, step := range roundSteps() {
		for i, a := range blocks {
			for _, b := range []string{blocks[(i+1)%len(blocks)], blocks[(i*13+5)%len(blocks)], a, blocks[len(blocks)-1]} {
				if got, want := step(impl.Xor(a, b)), impl.Xor(step(a), step(b)); got != want {
					t.Errorf("%s of the sum of %q and %q is %q, not %q", name, a, b, got, want)
				}
			}
		}
		if got := step(strings.Repeat("\x00", 16)); got != strings.Repeat("\x00", 16) {
			t.Errorf("%s of noughts = %q", name, got)
		}
	}
}

// Products of all bytes of a block with one byte go over mixing, too.
func TestWhatIsMixedGoesOverProducts(t *testing.T) {
	timesEach := func(s string, factor int) string {
		product := make([]byte, len(s))
		for i := range product {
			product[i] = byte(impl.Times(int(s[i]), factor))
		}
		return string(product)
	}
	for name, step := range roundSteps() {
		for i, s := range someBlocks() {
			factor := i * 37 % 256
			if got, want := step(timesEach(s, factor)), timesEach(step(s), factor); got != want {
				t.Errorf("%s of %q times %d is %q, not %q", name, s, factor, got, want)
			}
		}
	}
}

// A round made of these steps is the standard's, there and back.
func TestRoundsLockAsTheStandardDoes(t *testing.T) {
	for _, key := range someKeys() {
		standard, err := aes.NewCipher([]byte(key))
		if err != nil {
			t.Fatal(err)
		}
		rounds := impl.Rounds(key)
		for _, block := range []string{everyByte()[:16], key[:16], strings.Repeat("\xff", 16)} {
			want := make([]byte, 16)
			standard.Encrypt(want, []byte(block))
			state := impl.Xor(block, impl.RoundKey(key, 0))
			for i := 1; i <= rounds; i++ {
				state = impl.ShiftRows(impl.SubText(state))
				if i < rounds {
					state = impl.MixColumns(state)
				}
				state = impl.Xor(state, impl.RoundKey(key, i))
			}
			if state != string(want) {
				t.Errorf("by rounds with %q %q comes to %q", key, block, state)
			}
			for i := rounds; i >= 1; i-- {
				state = impl.Xor(state, impl.RoundKey(key, i))
				if i < rounds {
					state = impl.UnmixColumns(state)
				}
				state = impl.UnsubText(impl.UnshiftRows(state))
			}
			if state = impl.Xor(state, impl.RoundKey(key, 0)); state != block {
				t.Errorf("by rounds back with %q %q comes to %q", key, block, state)
			}
		}
	}
}

func TestRoundStepsRefuseWhatIsNoBlock(t *testing.T) {
	for name, step := range roundSteps() {
		for _, s := range noBlocks() {
			if got := step(s); got != "" {
				t.Errorf("%s of %d bytes = %q", name, len(s), got)
			}
		}
	}
}

func TestRoundStepsAnswerInNewMemory(t *testing.T) {
	for name, step := range roundSteps() {
		for _, s := range append(someBlocks(), strings.Repeat("\x5c", 16)) {
			was := strings.Clone(s)
			first := step(s)
			second := step(s)
			if s != was || len(first) != 16 || second != first {
				t.Errorf("%s(%q) = %q, then %q", name, was, first, second)
			}
			if liesIn(first, s) || liesIn(second, first) {
				t.Errorf("%s(%q) is no new memory", name, s)
			}
		}
		whole := everyByte()
		if got := step(whole[16:32]); whole != everyByte() || liesIn(got, whole) {
			t.Errorf("%s reaches out of its argument", name)
		}
	}
}
