package tests

import (
	"crypto/aes"
	"crypto/cipher"
	"math/big"
	"runtime"
	"slices"
	"strings"
	"sync"
	"testing"
	"time"

	"loop.example/g00835/impl"
)

// sealKeys and sealIvs are those of which papers on the standard's seals print the most.
func sealKeys() []string {
	short := "\xfe\xff\xe9\x92\x86\x65\x73\x1c\x6d\x6a\x8f\x94\x67\x30\x83\x08"
	return []string{short, short + short[:8], short + short}
}

func sealIvs() []string {
	return []string{
		"\xca\xfe\xba\xbe\xfa\xce\xdb\xad\xde\xca\xf8\x88", noughtsBlock[:12], onesBlock[:12], everyByte()[:12], everyByte()[244:], "twelve bytes",
	}
}

// openTexts has texts on both sides of where blocks begin anew.
func openTexts() []string {
	var texts []string
	for _, n := range []int{0, 1, 2, 4, 8, 12, 15, 16, 17, 20, 31, 32, 33, 48, 63, 64, 65, 100, 129, 500} {
		texts = append(texts, manyBlocks(40)[n%19:][:n])
	}
	return append(texts, noughtsBlock, "\x00", onesBlock, strings.Repeat("\u00e9", 9))
}

// textOfHex also takes the empty text.
func textOfHex(t *testing.T, s string) string {
	t.Helper()
	text, ok := impl.Unhex(s)
	if !ok {
		t.Fatalf("%q is no text", s)
	}
	return text
}

func lastBlock(s string) string { return s[len(s)-16:] }

// macOfStandard goes by the standard's chain, from the subkeys on.
func macOfStandard(t *testing.T, key, s string) string {
	t.Helper()
	whole := doubledBitByBit(standardLock(t, key, noughtsBlock, false))
	turn := whole
	if len(s) == 0 || len(s)%16 != 0 {
		turn = doubledBitByBit(whole)
		s += "\x80"
		for len(s)%16 != 0 {
			s += "\x00"
		}
	}
	turned := []byte(s)
	for i := range 16 {
		turned[len(s)-16+i] ^= turn[i]
	}
	return lastBlock(standardRaw(t, impl.MoChain, key, noughtsBlock, string(turned), false))
}

// polynomialOf has the bit of each place as that of its power.
func polynomialOf(block string) *big.Int {
	p := new(big.Int)
	for place := range 128 {
		p.SetBit(p, place, uint(block[place/8]>>(7-place%8)&1))
	}
	return p
}

func blockOfPolynomial(p *big.Int) string {
	block := make([]byte, 16)
	for place := range 128 {
		block[place/8] |= byte(p.Bit(place) << (7 - place%8))
	}
	return string(block)
}

// timesOfPolynomials first multiplies all of it, and then takes the field's polynomial off from the top on.
func timesOfPolynomials(a, b string) string {
	first, second, product := polynomialOf(a), polynomialOf(b), new(big.Int)
	for place := range 128 {
		if second.Bit(place) == 1 {
			product.Xor(product, new(big.Int).Lsh(first, uint(place)))
		}
	}
	field := new(big.Int).SetBit(big.NewInt(0x87), 128, 1)
	for place := 254; place >= 128; place-- {
		if product.Bit(place) == 1 {
			product.Xor(product, new(big.Int).Lsh(field, uint(place-128)))
		}
	}
	return blockOfPolynomial(product)
}

func filledByNoughts(s string) string {
	for len(s)%16 != 0 {
		s += "\x00"
	}
	return s
}

func hashOfPolynomials(h, s string) string {
	hash := noughtsBlock
	for _, block := range piecesOf(filledByNoughts(s), 16) {
		hash = timesOfPolynomials(impl.Xor(hash, block), h)
	}
	return hash
}

func standardSeal(t *testing.T, key, iv, open, s string) string {
	t.Helper()
	standard, err := aes.NewCipher([]byte(key))
	if err != nil {
		t.Fatal(err)
	}
	seal, err := cipher.NewGCM(standard)
	if err != nil {
		t.Fatal(err)
	}
	return string(seal.Seal(nil, []byte(iv), []byte(s), []byte(open)))
}

// sealByTheChapter takes what it needs from the other chapters.
func sealByTheChapter(key, iv, open, s string) string {
	j := iv + impl.PutWord(1)
	row := ""
	for i := 1; len(row) < len(s); i++ {
		row += impl.Lock(key, impl.Count(j, i))
	}
	c := impl.Xor(s, row)
	sizes := impl.PutWord(0) + impl.PutWord(8*len(open)) + impl.PutWord(0) + impl.PutWord(8*len(c))
	hash := hashOfPolynomials(impl.Lock(key, noughtsBlock), filledByNoughts(open)+filledByNoughts(c)+sizes)
	return c + impl.Xor(impl.Lock(key, j), hash)
}

func holdSeal(t *testing.T, key, iv, open, s, want string) {
	t.Helper()
	if got, code := impl.Seal(key, iv, open, s); got != want || code != impl.CoOk {
		t.Errorf("Seal of %d and %d bytes %.70q = %.70q, %d, not %.70q", len(open), len(s), s, got, code, want)
	}
	if got, code := impl.Unseal(key, iv, open, want); got != s || code != impl.CoOk {
		t.Errorf("%d and %d bytes come back as %.70q, %d, not %.70q", len(open), len(want), got, code, s)
	}
}

func refusedUnseal(t *testing.T, key, iv, open, x string, want int) {
	t.Helper()
	if got, code := impl.Unseal(key, iv, open, x); got != "" || code != want {
		t.Errorf("Unseal of %d and %d bytes %.70q = %.70q, %d, not %d", len(open), len(x), x, got, code, want)
	}
}

// refusedSeal asks both ways: a text is looked at behind all else.
func refusedSeal(t *testing.T, key, iv, open, s string, want int) {
	t.Helper()
	if got, code := impl.Seal(key, iv, open, s); got != "" || code != want {
		t.Errorf("Seal with a key of %d bytes, an iv of %d = %.70q, %d, not %d", len(key), len(iv), got, code, want)
	}
	refusedUnseal(t, key, iv, open, s, want)
}

// changedBit is a text of which one bit is another one.
func changedBit(s string, bit int) string {
	other := []byte(s)
	other[bit/8] ^= 1 << (bit % 8)
	return string(other)
}

func TestSubkeysAsTheStandardPrints(t *testing.T) {
	for i, want := range [][2]string{
		{"fbeed618357133667c85e08f7236a8de", "f7ddac306ae266ccf90bc11ee46d513b"},
		{"448a5b1c93514b273ee6439dd4daa296", "8914b63926a2964e7dcc873ba9b5452c"},
		{"cad1ed03299eedac2e9a99808621502f", "95a3da06533ddb585d3533010c42a0d9"},
	} {
		one, two := impl.Subkeys(keyOfHex(t, blockCases()[i][0]))
		if impl.Hex(one) != want[0] || impl.Hex(two) != want[1] {
			t.Errorf("with %s the subkeys are %s and %s", blockCases()[i][0], impl.Hex(one), impl.Hex(two))
		}
	}
}

func TestSubkeys(t *testing.T) {
	for _, key := range someKeys() {
		want := doubledBitByBit(standardLock(t, key, noughtsBlock, false))
		if one, two := impl.Subkeys(key); one != want || two != doubledBitByBit(want) {
			t.Errorf("with %s the subkeys are %s and %s", impl.Hex(key), impl.Hex(one), impl.Hex(two))
		}
	}
}

func TestMacAsTheStandardPrints(t *testing.T) {
	for i, printed := range []map[int]string{
		{0: "bb1d6929e95937287fa37d129b756746", 16: "070a16b46b4d4144f79bdd9dd04a287c",
			40: "dfa66747de9ae63030ca32611497c827", 64: "51f0bebf7e3b9d92fc49741779363cfe"},
		{0: "d17ddf46adaacde531cac483de7a9367", 16: "9e99a7bf31e710900662f65e617c5184",
			40: "8a1de5be2eb31aad089a82e6ee908b0e", 64: "a1d5df0eed790f794d77589659f39a11"},
		{0: "028962f61b7bf89efc6b551f4667d983", 16: "28a7023f452e8f82bd4bf28d8c37c35c",
			40: "aaf3d8f1de5640c232f5b169b9c911e6", 64: "e1992190549f6ed5696a2c056c315410"},
	} {
		key, s := keyOfHex(t, blockCases()[i][0]), textOfHex(t, blockCases()[i][1])
		for n, want := range printed {
			if got := impl.Mac(key, s[:n]); impl.Hex(got) != want {
				t.Errorf("Mac %d of %d bytes = %s, not %s", i, n, impl.Hex(got), want)
			}
		}
	}
}

func TestMac(t *testing.T) {
	for i, s := range append(modeTexts(), openTexts()...) {
		for j, key := range append(threeKeys(), sealKeys()...) {
			if len(s) > 5000 && i%6 != j {
				continue
			}
			if got, want := impl.Mac(key, s), macOfStandard(t, key, s); got != want {
				t.Errorf("Mac of %d bytes %.70q = %s, not %s", len(s), s, impl.Hex(got), impl.Hex(want))
			}
		}
	}
	for i, key := range someKeys() {
		for _, s := range []string{"", "x", noughtsBlock, manyBlocks(5)[:i%81]} {
			if got, want := impl.Mac(key, s), macOfStandard(t, key, s); got != want {
				t.Errorf("with %s Mac of %d bytes = %s, not %s", impl.Hex(key), len(s), impl.Hex(got), impl.Hex(want))
			}
		}
	}
}

// What stands behind a text that isn't whole doesn't make it the same as one that has these bytes itself.
func TestTextsThatDifferHaveOtherMacs(t *testing.T) {
	var texts []string
	for n := range 50 {
		s := manyBlocks(4)[:n]
		texts = append(texts, s, strings.Repeat("\x00", n), s+"\x80", s+"\x80\x00", s+"\x00", s+"\x80"+noughtsBlock[:15-n%16], impl.Pad(s))
	}
	texts = append(texts, onesBlock, onesBlock+noughtsBlock, noughtsBlock+onesBlock)
	slices.Sort(texts)
	texts = slices.Compact(texts)
	for _, key := range threeKeys() {
		of := map[string]string{}
		for _, s := range texts {
			tag := impl.Mac(key, s)
			if other, there := of[tag]; there || len(tag) != 16 {
				t.Errorf("%q and %q have the same Mac %q", s, other, tag)
			}
			of[tag] = s
		}
	}
}

// The Mac of one whole block tells nothing of the one that goes on behind it, as a chain alone would.
func TestMacIsNoMereChain(t *testing.T) {
	for i, key := range threeKeys() {
		block := manyBlocks(9)[16*i:][:16]
		if impl.Mac(key, block) == impl.Lock(key, block) {
			t.Errorf("the Mac of %q is its Lock", block)
		}
		tag := impl.Mac(key, block)
		if impl.Mac(key, block+impl.Xor(block, tag)) == tag {
			t.Errorf("the Mac of %q tells that of a text that goes on", block)
		}
	}
}

func TestEachBitCountsInAMac(t *testing.T) {
	for i, key := range threeKeys() {
		for _, n := range []int{1, 15, 16, 17, 32, 40} {
			s := manyBlocks(4)[i:][:n]
			tag := impl.Mac(key, s)
			for bit := range 8 * n {
				other := changedBit(s, bit)
				if got := impl.Mac(key, other); got == tag || got != macOfStandard(t, key, other) || impl.MacOk(key, other, tag) {
					t.Errorf("bit %d of %q makes the Mac %q of %q", bit, s, got, tag)
				}
			}
			for bit := range 8 * len(key) {
				other := changedBit(key, bit)
				if got := impl.Mac(other, s); got == tag || got != macOfStandard(t, other, s) || impl.MacOk(other, s, tag) {
					t.Errorf("bit %d of a key makes the Mac %q of %q", bit, got, tag)
				}
			}
		}
	}
}

// Each size of a tag, right and with each bit of it another one.
func TestMacOk(t *testing.T) {
	for i, s := range append(openTexts(), modeTexts()[:34]...) {
		key := threeKeys()[i%3]
		tag := macOfStandard(t, key, s)
		for n := range 17 {
			if got, want := impl.MacOk(key, s, tag[:n]), n >= 4; got != want {
				t.Errorf("MacOk of %q and %d bytes of its Mac = %t", s, n, got)
			}
			for bit := range 8 * n {
				if impl.MacOk(key, s, changedBit(tag[:n], bit)) {
					t.Errorf("MacOk of %q and %d bytes doesn't tell of bit %d", s, n, bit)
				}
			}
		}
		for _, other := range []string{s + "x", s + "\x00", s + "\x80", "x" + s, s + s + "x"} {
			if impl.MacOk(key, other, tag) || impl.MacOk(key, other, tag[:4]) {
				t.Errorf("MacOk takes the Mac of %q for that of %q", s, other)
			}
		}
	}
}

func TestTagsThatAreNoBeginning(t *testing.T) {
	key, s := threeKeys()[0], "a text"
	tag := impl.Mac(key, s)
	for _, other := range []string{
		"", tag[:1], tag[:3], tag[1:], tag[4:], tag[12:], tag + "x", tag + "\x00", tag + tag, "x" + tag, tag[:4] + tag[:4], tag[:15] + "x",
		noughtsBlock, noughtsBlock[:4], noughtsBlock[:3], tag[:4] + "\x00", impl.Hex(tag), impl.Hex(tag)[:16], tag + strings.Repeat("k", 1<<16),
		strings.Repeat("k", 1<<16), impl.Lock(key, tag), s,
	} {
		if impl.MacOk(key, s, other) {
			t.Errorf("MacOk takes %d bytes %.70q", len(other), other)
		}
	}
	for n := range 60 {
		if impl.MacOk(key, s, strings.Repeat(tag, 4)[:n]) != (n >= 4 && n <= 16) {
			t.Errorf("MacOk isn't right of %d bytes", n)
		}
	}
}

func TestMacWithKeysThatAreNotRight(t *testing.T) {
	texts := []string{"", "x", noughtsBlock, manyBlocks(3), "another text"}
	tags := []string{"", "\x00", "abcd", noughtsBlock[:4], noughtsBlock, onesBlock}
	for i, key := range noKeys() {
		s := texts[i%len(texts)]
		if one, two := impl.Subkeys(key); one != "" || two != "" {
			t.Errorf("with a key of %d bytes Subkeys are %q and %q", len(key), one, two)
		}
		if got := impl.Mac(key, s); got != "" {
			t.Errorf("with a key of %d bytes Mac of %.70q = %q", len(key), s, got)
		}
		for _, tag := range tags {
			if impl.MacOk(key, s, tag) {
				t.Errorf("with a key of %d bytes MacOk of %.70q takes %q", len(key), s, tag)
			}
		}
	}
}

func holdTimes(t *testing.T, a, b, want string) {
	t.Helper()
	if got := impl.BlockTimes(a, b); got != want {
		t.Errorf("BlockTimes of %s and %s = %s, not %s", impl.Hex(a), impl.Hex(b), impl.Hex(got), impl.Hex(want))
	}
}

// The first lines are by hand, the others are printed by papers on the standard's seals.
func TestBlockTimesByHand(t *testing.T) {
	for _, c := range [][3]string{
		{"80000000000000000000000000000000", "80000000000000000000000000000000", "80000000000000000000000000000000"},
		{"40000000000000000000000000000000", "40000000000000000000000000000000", "20000000000000000000000000000000"},
		{"01000000000000000000000000000000", "40000000000000000000000000000000", "00800000000000000000000000000000"},
		{"00000000000000010000000000000000", "40000000000000000000000000000000", "00000000000000008000000000000000"},
		{"00000000000000000000000000000001", "40000000000000000000000000000000", "e1000000000000000000000000000000"},
		{"00000000000000000000000000000001", "c0000000000000000000000000000000", "e1000000000000000000000000000001"},
		{"00000000000000000000000000000003", "40000000000000000000000000000000", "e1000000000000000000000000000001"},
		{"00000000000000000000000000000001", "20000000000000000000000000000000", "70800000000000000000000000000000"},
		{"0388dace60b6a392f328c2b971b2fe78", "66e94bd4ef8a2c3b884cfa59ca342b2e", "5e2ec746917062882c85b0685353deb7"},
		{"5e2ec746917062882c85b0685353de37", "66e94bd4ef8a2c3b884cfa59ca342b2e", "f38cbb1ad69223dcc3457ae5b6b0f885"},
	} {
		a, b, want := blockOfHex(t, c[0]), blockOfHex(t, c[1]), blockOfHex(t, c[2])
		holdTimes(t, a, b, want)
		holdTimes(t, b, a, want)
	}
}

func TestBlockTimes(t *testing.T) {
	blocks := someBlocks()
	for i, a := range blocks {
		for _, step := range []int{0, 1, 7, 64, 131} {
			b := blocks[(i*3+step)%len(blocks)]
			want := timesOfPolynomials(a, b)
			holdTimes(t, a, b, want)
			holdTimes(t, b, a, want)
		}
	}
}

// Single bits: their places are added, and go round by the field's polynomial alone.
func TestBlockTimesOfSingleBits(t *testing.T) {
	bitAt := func(place int) string { return changedBit(noughtsBlock, place/8*8+7-place%8) }
	for i := range 128 {
		for j := range 128 {
			want := timesOfPolynomials(bitAt(i), bitAt(j))
			if i+j < 128 && want != bitAt(i+j) {
				t.Fatalf("bits %d and %d make %s", i, j, impl.Hex(want))
			}
			holdTimes(t, bitAt(i), bitAt(j), want)
		}
	}
}

func TestProductsOfBlocks(t *testing.T) {
	one := "\x80" + noughtsBlock[1:]
	blocks := someBlocks()
	for i, a := range blocks {
		b, c := blocks[(i*5+3)%len(blocks)], blocks[(i*11+200)%len(blocks)]
		holdTimes(t, a, one, a)
		holdTimes(t, one, a, a)
		holdTimes(t, a, noughtsBlock, noughtsBlock)
		holdTimes(t, noughtsBlock, a, noughtsBlock)
		holdTimes(t, impl.Xor(a, b), c, impl.Xor(impl.BlockTimes(a, c), impl.BlockTimes(b, c)))
		holdTimes(t, impl.BlockTimes(a, b), c, impl.BlockTimes(a, impl.BlockTimes(b, c)))
	}
}

// Each block but 0 has an inverse: it is the product of all that come by squaring it, again and again.
func TestBlocksHaveInverses(t *testing.T) {
	for _, a := range someBlocks()[1:] {
		square, inverse := a, "\x80"+noughtsBlock[1:]
		for range 127 {
			square = impl.BlockTimes(square, square)
			inverse = impl.BlockTimes(inverse, square)
		}
		holdTimes(t, a, inverse, "\x80"+noughtsBlock[1:])
	}
}

func TestProductsOfNoBlocks(t *testing.T) {
	blocks, none := someBlocks(), noBlocks()
	for i, s := range none {
		block, other := blocks[i%400], none[(i*7)%200]
		for _, got := range []string{
			impl.BlockTimes(s, block), impl.BlockTimes(block, s), impl.BlockTimes(s, s), impl.BlockTimes(s, other),
			impl.BlockHash(s, block), impl.BlockHash(s, ""), impl.BlockHash(s, other),
		} {
			if got != "" {
				t.Errorf("of %d bytes %.70q comes the product %q", len(s), s, got)
			}
		}
	}
}

func TestBlockHashAsTheStandardPrints(t *testing.T) {
	open := "feedfacedeadbeeffeedfacedeadbeefabaddad2"
	c := "42831ec2217774244b7221b784d0d49ce3aa212f2c02a4e035c17e2329aca12e21d514b25466931c7d8f6a5aac84aa051ba30b396a0aac973d58e091473f5985"
	for _, p := range [][3]string{
		{"66e94bd4ef8a2c3b884cfa59ca342b2e", "00000000000000000000000000000000", "00000000000000000000000000000000"},
		{"66e94bd4ef8a2c3b884cfa59ca342b2e", "0388dace60b6a392f328c2b971b2fe7800000000000000000000000000000080", "f38cbb1ad69223dcc3457ae5b6b0f885"},
		{"b83b533708bf535d0aa6e52980d53b78", c + "00000000000000000000000000000200", "7f1b32b81b820d02614f8895ac1d4eac"},
		{"b83b533708bf535d0aa6e52980d53b78", open + "000000000000000000000000" + c[:120] + "0000000000000000000000a000000000000001e0", "698e57f70e6ecc7fd9463b7260a9ae5f"},
	} {
		if got := impl.BlockHash(blockOfHex(t, p[0]), textOfHex(t, p[1])); impl.Hex(got) != p[2] {
			t.Errorf("BlockHash of %s and %s = %s, not %s", p[0], p[1], impl.Hex(got), p[2])
		}
	}
}

func TestBlockHash(t *testing.T) {
	for i, s := range modeTexts() {
		h := someBlocks()[(i*13+270)%400]
		if len(s) < 2000 {
			if got, want := impl.BlockHash(h, s), hashOfPolynomials(h, s); got != want {
				t.Errorf("BlockHash of %s and %d bytes = %s, not %s", impl.Hex(h), len(s), impl.Hex(got), impl.Hex(want))
			}
			continue
		}
		want := noughtsBlock
		for _, block := range piecesOf(filledByNoughts(s), 16) {
			want = impl.BlockTimes(impl.Xor(want, block), h)
		}
		if got := impl.BlockHash(h, s); got != want {
			t.Errorf("BlockHash of %s and %d bytes = %s, not %s", impl.Hex(h), len(s), impl.Hex(got), impl.Hex(want))
		}
	}
}

// Of nothing comes what stands ahead of the first block, whatever h is; of one block a single product.
func TestBlockHashOfNothing(t *testing.T) {
	for i, h := range someBlocks() {
		block := someBlocks()[(i*7)%400]
		if got := impl.BlockHash(h, ""); got != noughtsBlock {
			t.Errorf("BlockHash of %s and nothing = %s", impl.Hex(h), impl.Hex(got))
		}
		if got := impl.BlockHash(h, block); got != timesOfPolynomials(h, block) {
			t.Errorf("BlockHash of %s and %s = %s", impl.Hex(h), impl.Hex(block), impl.Hex(got))
		}
		if got := impl.BlockHash(h, noughtsBlock+noughtsBlock[:i%17]); got != noughtsBlock {
			t.Errorf("BlockHash of %s and noughts = %s", impl.Hex(h), impl.Hex(got))
		}
	}
}

// Bytes 0 that lack aren't told from bytes 0 that are there; a whole text gets none.
func TestBlockHashFills(t *testing.T) {
	for n := range 70 {
		h, s := someBlocks()[280+n], manyBlocks(5)[n%5:][:n]
		want := impl.BlockHash(h, s)
		for lack := 0; (n+lack)%16 != 0; lack++ {
			if got := impl.BlockHash(h, s+noughtsBlock[:lack]); got != want {
				t.Errorf("%d bytes 0 behind %d make another hash", lack, n)
			}
		}
		if got := impl.BlockHash(h, filledByNoughts(s)); got != want {
			t.Errorf("BlockHash doesn't fill %d bytes", n)
		}
		if got := impl.BlockHash(h, filledByNoughts(s)+noughtsBlock); got != timesOfPolynomials(want, h) {
			t.Errorf("one block 0 more behind %d bytes makes %s", n, impl.Hex(got))
		}
	}
}

func TestBlockHashGoesOnWhereItWas(t *testing.T) {
	s := manyBlocks(12)[:181]
	for i, h := range someBlocks()[265:300] {
		for cut := 0; cut <= 176; cut += 16 {
			ahead, behind := impl.BlockHash(h, s[:cut]), filledByNoughts(s[cut:])
			if got := impl.BlockHash(h, impl.Xor(ahead, behind[:16])+behind[16:]); got != impl.BlockHash(h, s) {
				t.Errorf("h %d: the hash doesn't go on behind %d bytes", i, cut)
			}
		}
		other := onesBlock + manyBlocks(20)[77:][:165]
		if impl.BlockHash(h, impl.Xor(s, other)) != impl.Xor(impl.BlockHash(h, s), impl.BlockHash(h, other)) {
			t.Errorf("h %d: the hash doesn't go over sums", i)
		}
	}
}

// Texts and tags that papers on the standard's seals print, for keys of all three sizes.
func TestSealAsTheStandardPrints(t *testing.T) {
	noughts, s := strings.Repeat("\x00", 32), textOfHex(t, "d9313225f88406e5a55909c5aff5269a86a7a9531534f7da2e4c303d8a318a721c3c0c95956809532fcf0e2449a6b525b16aedf5aa0de657ba637b391aafd255")
	open, iv := textOfHex(t, "feedfacedeadbeeffeedfacedeadbeefabaddad2"), sealIvs()[0]
	for _, c := range []struct{ key, iv, open, s, want string }{
		{noughts[:16], noughts[:12], "", "", "58e2fccefa7e3061367f1d57a4e7455a"},
		{noughts[:16], noughts[:12], "", noughts[:16], "0388dace60b6a392f328c2b971b2fe78ab6e47d42cec13bdf53a67b21257bddf"},
		{sealKeys()[0], iv, "", s, "42831ec2217774244b7221b784d0d49ce3aa212f2c02a4e035c17e2329aca12e21d514b25466931c7d8f6a5aac84aa051ba30b396a0aac973d58e091473f59854d5c2af327cd64a62cf35abd2ba6fab4"},
		{sealKeys()[0], iv, open, s[:60], "42831ec2217774244b7221b784d0d49ce3aa212f2c02a4e035c17e2329aca12e21d514b25466931c7d8f6a5aac84aa051ba30b396a0aac973d58e0915bc94fbc3221a5db94fae95ae7121a47"},
		{noughts[:24], noughts[:12], "", "", "cd33b28ac773f74ba00ed1f312572435"},
		{noughts[:24], noughts[:12], "", noughts[:16], "98e7247c07f0fe411c267e4384b0f6002ff58d80033927ab8ef4d4587514f0fb"},
		{sealKeys()[1], iv, open, s[:60], "3980ca0b3c00e841eb06fac4872a2757859e1ceaa6efd984628593b40ca1e19c7d773d00c144c525ac619d18c84a3f4718e2448b2fe324d9ccda27102519498e80f1478f37ba55bd6d27618c"},
		{noughts[:32], noughts[:12], "", "", "530f8afbc74536b9a963b4f1c4cb738b"},
		{noughts[:32], noughts[:12], "", noughts[:16], "cea7403d4d606b6e074ec5d3baf39d18d0d1c8a799996bf0265b98b5d48ab919"},
		{sealKeys()[2], iv, open, s[:60], "522dc1f099567d07f47f37a32a84427d643a8cdcbfe5c0c97598a2bd2555d1aa8cb08e48590dbb3da7b08b1056828838c5f61e6393ba7a0abcc9f66276fc6ece0f4e1768cddf8853bb2d551b"},
	} {
		holdSeal(t, c.key, c.iv, c.open, c.s, textOfHex(t, c.want))
	}
}

func TestSealAsTheStandardDoes(t *testing.T) {
	for i, s := range modeTexts() {
		key, iv, open := threeKeys()[i%3], sealIvs()[i%len(sealIvs())], openTexts()[i%len(openTexts())]
		holdSeal(t, key, iv, open, s, standardSeal(t, key, iv, open, s))
		holdSeal(t, key, iv, s, open, standardSeal(t, key, iv, s, open))
		holdSeal(t, key, iv, "", s, standardSeal(t, key, iv, "", s))
		holdSeal(t, key, iv, s, "", standardSeal(t, key, iv, s, ""))
	}
	for i, key := range someKeys() {
		open, s := manyBlocks(3)[:i%40], manyBlocks(5)[:i%70]
		for _, iv := range sealIvs() {
			holdSeal(t, key, iv, open, s, standardSeal(t, key, iv, open, s))
		}
	}
}

// Each size of both texts, on both sides of blocks.
func TestSealOfAllSizes(t *testing.T) {
	for n := range 35 {
		for m := range 35 {
			key, iv := sealKeys()[(n+m)%3], sealIvs()[(n*m)%len(sealIvs())]
			open, s := manyBlocks(3)[:n], manyBlocks(6)[40:][:m]
			holdSeal(t, key, iv, open, s, standardSeal(t, key, iv, open, s))
		}
	}
}

func TestSealByTheChapter(t *testing.T) {
	for i, open := range openTexts() {
		for j, s := range openTexts() {
			key, iv := threeKeys()[(i+j)%3], sealIvs()[(i*j)%len(sealIvs())]
			holdSeal(t, key, iv, open, s, sealByTheChapter(key, iv, open, s))
		}
	}
}

// A text of nothing has a seal, too, and comes back as no refusal does.
func TestSealOfNothing(t *testing.T) {
	for i, key := range someKeys() {
		iv := sealIvs()[i%len(sealIvs())]
		tag := standardLock(t, key, iv+"\x00\x00\x00\x01", false)
		holdSeal(t, key, iv, "", "", tag)
		refusedUnseal(t, key, iv, "", tag[:15], impl.CoLength)
		refusedUnseal(t, key, iv, "", tag[1:], impl.CoLength)
		refusedUnseal(t, key, iv, "\x00", tag, impl.CoSeal)
		refusedUnseal(t, key, iv, "", "\x00"+tag, impl.CoSeal)
		refusedUnseal(t, key, iv, "", tag+"\x00", impl.CoSeal)
		refusedUnseal(t, key, iv, "", changedBit(tag, i%128), impl.CoSeal)
		refusedUnseal(t, key, iv, "", noughtsBlock, impl.CoSeal)
		refusedUnseal(t, key, iv, "", "", impl.CoLength)
	}
}

// Each bit of all that is given to Unseal counts.
func TestASealTellsOfEachChangedBit(t *testing.T) {
	for i, key := range threeKeys() {
		for _, n := range []int{0, 1, 16, 37} {
			iv, open, s := sealIvs()[i], manyBlocks(3)[:(n*7+i)%35], manyBlocks(4)[:n]
			x, _ := impl.Seal(key, iv, open, s)
			for bit := range 8 * len(x) {
				refusedUnseal(t, key, iv, open, changedBit(x, bit), impl.CoSeal)
			}
			for bit := range 8 * len(open) {
				refusedUnseal(t, key, iv, changedBit(open, bit), x, impl.CoSeal)
			}
			for bit := range 8 * len(iv) {
				refusedUnseal(t, key, changedBit(iv, bit), open, x, impl.CoSeal)
			}
			for bit := range 8 * len(key) {
				refusedUnseal(t, changedBit(key, bit), iv, open, x, impl.CoSeal)
			}
			holdSeal(t, key, iv, open, s, x)
		}
	}
}

func TestASealTellsOfAnyOtherTag(t *testing.T) {
	key, iv, open, s := threeKeys()[1], sealIvs()[3], "open", "a text"
	x, _ := impl.Seal(key, iv, open, s)
	for at := range 16 {
		for b := range 256 {
			other := []byte(x)
			other[6+at] = byte(b)
			want, code := s, impl.CoOk
			if string(other) != x {
				want, code = "", impl.CoSeal
			}
			if got, is := impl.Unseal(key, iv, open, string(other)); got != want || is != code {
				t.Errorf("with byte %d at place %d of the tag %q, %d comes back", b, at, got, is)
			}
		}
	}
	for _, tag := range []string{noughtsBlock, onesBlock, impl.Mac(key, s), impl.Mac(key, x[:6]), impl.Lock(key, noughtsBlock), impl.Lock(key, iv+"\x00\x00\x00\x01")} {
		refusedUnseal(t, key, iv, open, x[:6]+tag, impl.CoSeal)
	}
}

// Bytes that go from one text into the other one, or that there are more or fewer of, 0 ones among them.
func TestASealTellsOfBytesThatMove(t *testing.T) {
	both := noughtsBlock + manyBlocks(4) + noughtsBlock
	key, iv := threeKeys()[2], sealIvs()[4]
	for cut := 0; cut <= len(both); cut += 3 {
		x, _ := impl.Seal(key, iv, both[:cut], both[cut:])
		whole := both[:cut] + x
		for other := range len(whole) + 1 {
			if other == cut {
				continue
			}
			want := impl.CoSeal
			if len(whole)-other < 16 {
				want = impl.CoLength
			}
			refusedUnseal(t, key, iv, whole[:other], whole[other:], want)
		}
	}
	for n := range 50 {
		open, s := manyBlocks(9)[80:][:n*3%40], manyBlocks(4)[:n]
		x, _ := impl.Seal(key, iv, open, s)
		c, tag := x[:n], x[n:]
		for _, more := range []string{"\x00", "x", noughtsBlock, noughtsBlock[:1+n%15]} {
			refusedUnseal(t, key, iv, open+more, x, impl.CoSeal)
			refusedUnseal(t, key, iv, more+open, x, impl.CoSeal)
			refusedUnseal(t, key, iv, open, c+more+tag, impl.CoSeal)
			refusedUnseal(t, key, iv, open, more+x, impl.CoSeal)
			refusedUnseal(t, key, iv, open, x+more, impl.CoSeal)
		}
		for fewer := 1; fewer <= n; fewer++ {
			refusedUnseal(t, key, iv, open, c[:n-fewer]+tag, impl.CoSeal)
			refusedUnseal(t, key, iv, open, c[fewer:]+tag, impl.CoSeal)
		}
		for fewer := 1; fewer <= len(open); fewer++ {
			refusedUnseal(t, key, iv, open[fewer:], x, impl.CoSeal)
			refusedUnseal(t, key, iv, open[:len(open)-fewer], x, impl.CoSeal)
		}
	}
}

// A text too short for a tag is told apart from one that has a wrong one.
func TestUnsealOfShortTexts(t *testing.T) {
	for i, key := range threeKeys() {
		iv := sealIvs()[i]
		for n := range 60 {
			want := impl.CoSeal
			if n < 16 {
				want = impl.CoLength
			}
			for _, open := range []string{"", "open", manyBlocks(2)} {
				refusedUnseal(t, key, iv, open, strings.Repeat("\x00", n), want)
				refusedUnseal(t, key, iv, open, manyBlocks(4)[:n], want)
			}
		}
		refusedUnseal(t, key, iv, "", strings.Repeat("k", 1<<16), impl.CoSeal)
	}
}

// Seals of one text by ivs and keys that differ have nothing in common.
func TestSealsWithOtherIvs(t *testing.T) {
	s, seen := manyBlocks(3), map[string]bool{}
	for _, key := range append(threeKeys(), sealKeys()...) {
		for _, iv := range sealIvs() {
			x, _ := impl.Seal(key, iv, "open", s)
			for _, block := range piecesOf(x, 16) {
				if seen[block] {
					t.Errorf("the block %q comes again", block)
				}
				seen[block] = true
			}
			for _, other := range sealIvs() {
				if other != iv {
					refusedUnseal(t, key, other, "open", x, impl.CoSeal)
				}
			}
		}
	}
}

// Text that stays open isn't in the seal but for its tag; each locked byte only hangs on its own place.
func TestHowFarAByteOfASealReaches(t *testing.T) {
	key, iv, open, s := threeKeys()[0], sealIvs()[5], "a text that stays open", manyBlocks(3)[:41]
	was, _ := impl.Seal(key, iv, open, s)
	for bit := range 8 * len(open) {
		x, _ := impl.Seal(key, iv, changedBit(open, bit), s)
		if x[:41] != was[:41] || x[41:] == was[41:] {
			t.Errorf("bit %d of the open text makes %q of %q", bit, x, was)
		}
	}
	for bit := range 8 * len(s) {
		x, _ := impl.Seal(key, iv, open, changedBit(s, bit))
		if x[:41] != changedBit(was[:41], bit) || x[41:] == was[41:] {
			t.Errorf("bit %d of the text makes %q of %q", bit, x, was)
		}
	}
}

// Each reason with each other one, in the order in which the chapter names them.
func TestWhichReasonComesFirstOfASeal(t *testing.T) {
	texts := []string{"", "x", noughtsBlock[1:], noughtsBlock, onesBlock + "x", manyBlocks(5)}
	for _, key := range append(threeKeys(), "", "x", strings.Repeat("k", 12), strings.Repeat("k", 17), strings.Repeat("k", 31), strings.Repeat("k", 64)) {
		for _, iv := range append(sealIvs(), "", "x", "eleven byte", "thirteen byte", noughtsBlock, strings.Repeat("k", 24), strings.Repeat("\u00e9", 12)) {
			for _, s := range texts {
				switch {
				case len(key) != 16 && len(key) != 24 && len(key) != 32:
					refusedSeal(t, key, iv, s, s, impl.CoKey)
				case len(iv) != 12:
					refusedSeal(t, key, iv, s, s, impl.CoIv)
				default:
					holdSeal(t, key, iv, s, s, standardSeal(t, key, iv, s, s))
					want := impl.CoSeal
					if len(s) < 16 {
						want = impl.CoLength
					}
					refusedUnseal(t, key, iv, "", s, want)
				}
			}
		}
	}
}

func TestSealsWithKeysAndIvsThatAreNotRight(t *testing.T) {
	texts := []string{"", "x", noughtsBlock, manyBlocks(4), strings.Repeat("k", 63)}
	for i, key := range noKeys() {
		refusedSeal(t, key, sealIvs()[i%6], texts[i%5], texts[i/5%5], impl.CoKey)
		refusedSeal(t, key, key, texts[i%5], texts[i/5%5], impl.CoKey)
	}
	for i, iv := range append(noBlocks(), someBlocks()...) {
		if len(iv) != 12 {
			refusedSeal(t, threeKeys()[i%3], iv, texts[i%5], texts[i/5%5], impl.CoIv)
		}
	}
	for n := range 300 {
		if n != 12 {
			refusedSeal(t, threeKeys()[n%3], strings.Repeat("\xca", n), texts[n%5], texts[n/5%5], impl.CoIv)
		}
	}
}

// What was sealed, unsealed or refused in one call doesn't come into another one.
func TestSealsKeepNothing(t *testing.T) {
	for i, s := range modeTexts()[10:70] {
		key, iv, open := threeKeys()[i%3], sealIvs()[i%6], openTexts()[i%len(openTexts())]
		want, tag := standardSeal(t, key, iv, open, s), macOfStandard(t, key, s)
		refusedSeal(t, key[1:], iv, open, s, impl.CoKey)
		refusedSeal(t, key, iv[1:], open, s, impl.CoIv)
		refusedUnseal(t, key, iv, open+"x", want, impl.CoSeal)
		impl.Seal(threeKeys()[(i+1)%3], iv, open, s)
		impl.BlockHash(onesBlock, s)
		impl.Mac(threeKeys()[(i+2)%3], s)
		holdSeal(t, key, iv, open, s, want)
		if got := impl.Mac(key, s); got != tag || !impl.MacOk(key, s, tag[:4]) {
			t.Errorf("Mac of %d bytes is then %s", len(s), impl.Hex(got))
		}
	}
}

func TestSealsAnswerInNewMemory(t *testing.T) {
	for i, s := range modeTexts() {
		key, iv, open := threeKeys()[i%3], sealIvs()[i%6], strings.Clone(openTexts()[i%len(openTexts())])
		block, was := someBlocks()[i], strings.Clone(s)
		x, code := impl.Seal(key, iv, open, s)
		y, _ := impl.Seal(key, iv, open, s)
		back, _ := impl.Unseal(key, iv, open, x)
		again, _ := impl.Unseal(key, iv, open, x)
		one, two := impl.Subkeys(key)
		told := []string{x, back, one, two, impl.Mac(key, s), impl.BlockTimes(block, block), impl.BlockHash(block, s)}
		holdNewTexts(t, "a seal", []string{key, iv, open, s, block}, told)
		holdNewTexts(t, "Unseal", []string{x, again}, []string{back})
		holdNewTexts(t, "Seal", []string{x}, []string{y})
		holdNewTexts(t, "Subkeys", []string{one}, []string{two})
		if s != was || key != threeKeys()[i%3] || iv != sealIvs()[i%6] || open != openTexts()[i%len(openTexts())] || back != s || code != impl.CoOk {
			t.Errorf("%d bytes are written into", len(s))
		}
	}
	whole := everyByte()
	for n := range 40 {
		impl.Subkeys(whole[:32])
		impl.Mac(whole[:24], whole[30:30+n])
		impl.MacOk(whole[:16], whole[30:30+n], whole[100:104])
		impl.BlockTimes(whole[10:26], whole[20:36])
		impl.BlockHash(whole[10:26], whole[20:20+n])
		impl.Seal(whole[:32], whole[20:32], whole[40:40+n], whole[50:50+n])
		impl.Unseal(whole[:32], whole[20:32], whole[40:40+n], whole[50:50+n])
	}
	if whole != everyByte() {
		t.Error("what stands around an argument is written into")
	}
}

func TestSealsAtTheSameTime(t *testing.T) {
	var all sync.WaitGroup
	for i, iv := range sealIvs() {
		var seals []string
		for n := range 60 {
			seals = append(seals, standardSeal(t, threeKeys()[(i+n)%3], iv, manyBlocks(4)[:n], manyBlocks(12)[i:][:3*n]))
		}
		all.Go(func() {
			for n, want := range seals {
				key, open, s := threeKeys()[(i+n)%3], manyBlocks(4)[:n], manyBlocks(12)[i:][:3*n]
				x, code := impl.Seal(key, iv, open, s)
				got, back := impl.Unseal(key, iv, open, x)
				if x != want || code != impl.CoOk || got != s || back != impl.CoOk {
					t.Errorf("at place %d %d bytes come back as %q", i, len(s), got)
				}
				if !impl.MacOk(key, s, impl.Mac(key, s)) {
					t.Errorf("at place %d the Mac of %d bytes isn't right", i, len(s))
				}
			}
		})
	}
	all.Wait()
}

// What locks at the same time is done when the answer is there. (One that has said so may take a moment to be gone.)
func TestNothingSealsOn(t *testing.T) {
	running := runtime.NumGoroutine()
	for i, s := range modeTexts() {
		x, _ := impl.Seal(threeKeys()[i%3], sealIvs()[i%6], s, s)
		impl.Unseal(threeKeys()[i%3], sealIvs()[i%6], s, x)
		impl.Unseal(threeKeys()[i%3], sealIvs()[i%6], "", x)
		impl.Mac(threeKeys()[i%3], s)
	}
	for range 2000 {
		if runtime.NumGoroutine() <= running {
			return
		}
		time.Sleep(time.Millisecond)
	}
	t.Errorf("%d work on", runtime.NumGoroutine()-running)
}
