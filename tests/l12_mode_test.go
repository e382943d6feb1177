package tests

import (
	"crypto/aes"
	"crypto/cipher"
	"math"
	"runtime"
	"slices"
	"strings"
	"sync"
	"testing"
	"time"

	"loop.example/g00835/impl"
)

var threeModes = []int{impl.MoEach, impl.MoChain, impl.MoCount}

// A modeWay is Encrypt or Decrypt.
type modeWay struct {
	name string
	tell func(int, int, string, string, string) (string, int)
}

func bothModeWays() []modeWay {
	return []modeWay{{"Encrypt", impl.Encrypt}, {"Decrypt", impl.Decrypt}}
}

// someIvs has blocks whose count goes over the ends of bytes, of halves and of the whole, besides others.
func someIvs() []string {
	return []string{
		noughtsBlock, onesBlock, onesBlock[:15] + "\xfd", onesBlock[:14] + "\xfe\xf8", noughtsBlock[:8] + onesBlock[:7] + "\xfe",
		everyByte()[:16], everyByte()[240:], "sixteen bytes :)",
	}
}

// modeTexts has texts on both sides of where blocks, fours of them, and what is worked at the same time begin anew.
func modeTexts() []string {
	var texts []string
	for n := range 200 {
		texts = append(texts, manyBlocks(14)[n%17:][:n])
	}
	for _, n := range []int{447, 448, 449, 496, 511, 512, 513, 527, 528, 575, 576, 640, 1007, 1023, 1024, 1025, 4111, 16384, 1<<16 + 5} {
		texts = append(texts, manyBlocks(5000)[:n])
	}
	return append(texts, noughtsBlock, onesBlock+onesBlock, strings.Repeat("\x10", 16), strings.Repeat("\x01", 15), strings.Repeat("\u00e9", 9))
}

// standardRaw is what the standard makes of a text that isn't padded, or of whole blocks, there or back.
func standardRaw(t *testing.T, mode int, key, iv, s string, back bool) string {
	t.Helper()
	if mode == impl.MoEach {
		return standardBlocks(t, key, s, back)
	}
	standard, err := aes.NewCipher([]byte(key))
	if err != nil {
		t.Fatal(err)
	}
	made := []byte(s)
	switch {
	case mode == impl.MoCount:
		cipher.NewCTR(standard, []byte(iv)).XORKeyStream(made, made)
	case back:
		cipher.NewCBCDecrypter(standard, []byte(iv)).CryptBlocks(made, made)
	default:
		cipher.NewCBCEncrypter(standard, []byte(iv)).CryptBlocks(made, made)
	}
	return string(made)
}

func standardEncrypt(t *testing.T, mode int, key, iv, s string) string {
	t.Helper()
	if mode != impl.MoCount {
		s = paddedByOne(s)
	}
	return standardRaw(t, mode, key, iv, s, false)
}

// standardDecrypt also knows what is the text of none.
func standardDecrypt(t *testing.T, mode int, key, iv, x string) (string, int) {
	t.Helper()
	if mode == impl.MoCount {
		return standardRaw(t, mode, key, iv, x, true), impl.CoOk
	}
	if len(x) == 0 || len(x)%16 != 0 {
		return "", impl.CoLength
	}
	s, ok := unpaddedBySearch(t, standardRaw(t, mode, key, iv, x, true))
	if !ok {
		return "", impl.CoPadding
	}
	return s, impl.CoOk
}

func holdDecrypt(t *testing.T, mode int, key, iv, x, want string, code int) {
	t.Helper()
	for _, engine := range threeEngines {
		if got, is := impl.Decrypt(engine, mode, key, iv, x); got != want || is != code {
			t.Errorf("Decrypt(%d, %d, ..) of %d bytes %.70q = %.70q, %d, not %.70q, %d", engine, mode, len(x), x, got, is, want, code)
		}
	}
}

// holdMode asks all three engines both ways, so that what one locked is unlocked by each.
func holdMode(t *testing.T, mode int, key, iv, s, want string) {
	t.Helper()
	for _, engine := range threeEngines {
		if got, code := impl.Encrypt(engine, mode, key, iv, s); got != want || code != impl.CoOk {
			t.Errorf("Encrypt(%d, %d, ..) of %d bytes %.70q = %.70q, %d, not %.70q", engine, mode, len(s), s, got, code, want)
		}
	}
	if got := impl.Size(mode, len(s)); got != len(want) {
		t.Errorf("Size(%d, %d) = %d, not %d", mode, len(s), got, len(want))
	}
	holdDecrypt(t, mode, key, iv, want, s, impl.CoOk)
}

func refusedMode(t *testing.T, engine, mode int, key, iv, s string, want int) {
	t.Helper()
	for _, way := range bothModeWays() {
		if got, code := way.tell(engine, mode, key, iv, s); got != "" || code != want {
			t.Errorf("%s(%d, %d, ..) of %d, %d and %d bytes = %.70q, %d, not %d", way.name, engine, mode, len(key), len(iv), len(s), got, code, want)
		}
	}
}

func TestNumbersOfModes(t *testing.T) {
	if want := []int{0, 1, 2}; !slices.Equal(threeModes, want) {
		t.Errorf("modes are %d, not %d", threeModes, want)
	}
}

// The four blocks of papers on the standard, chained and counted; behind what they print of them a whole padding is chained.
func TestModesAsTheStandardPrints(t *testing.T) {
	for i, c := range [][2]string{
		{"7649abac8119b246cee98e9b12e9197d5086cb9b507219ee95db113a917678b273bed6b8e3c1743b7116e69e222295163ff1caa1681fac09120eca307586e1a7",
			"874d6191b620e3261bef6864990db6ce9806f66b7970fdff8617187bb9fffdff5ae4df3edbd5d35e5b4f09020db03eab1e031dda2fbe03d1792170a0f3009cee"},
		{"4f021db243bc633d7178183a9fa071e8b4d9ada9ad7dedf4e5e738763f69145a571b242012fb7ae07fa9baac3df102e008b0e27988598881d920a9e64f5615cd",
			"1abc932417521ca24f2b0459fe7e6e0b090339ec0aa6faefd5ccc2c6f4ce8e941e36b26bd1ebc670d1bd1d665620abf74f78a7f6d29809585a97daec58c6b050"},
		{"f58c4c04d6e5f1ba779eabfb5f7bfbd69cfc4e967edb808d679f777bc6702c7d39f23369a9d9bacfa530e26304231461b2eb05e2c39be9fcda6c19078c6a9d1b",
			"601ec313775789a5b7a7f504bbf3d228f443e3ca4d62b59aca84e990cacaf5c52b0930daa23de94ce87017ba2d84988ddfc9c58db67aada613c2dd08457941a6"},
	} {
		key := keyOfHex(t, blockCases()[i][0])
		text, _ := impl.Unhex(blockCases()[i][1])
		each, _ := impl.Unhex(blockCases()[i][2])
		chain, _ := impl.Unhex(c[0])
		count, _ := impl.Unhex(c[1])
		iv := everyByte()[:16]
		holdMode(t, impl.MoEach, key, iv, text, each+impl.Lock(key, strings.Repeat("\x10", 16)))
		holdMode(t, impl.MoChain, key, iv, text, chain+impl.Lock(key, impl.Xor(strings.Repeat("\x10", 16), chain[48:])))
		for n := range len(text) + 1 {
			holdMode(t, impl.MoCount, key, everyByte()[240:], text[:n], count[:n])
		}
	}
}

func TestModesAsTheStandardDoes(t *testing.T) {
	for i, s := range modeTexts() {
		for _, mode := range threeModes {
			key, iv := threeKeys()[i%3], someIvs()[i/3%len(someIvs())]
			holdMode(t, mode, key, iv, s, standardEncrypt(t, mode, key, iv, s))
		}
	}
	for i, key := range someKeys() {
		for j, iv := range someIvs() {
			mode := threeModes[(i+j)%3]
			s := manyBlocks(12)[i%16:][:(i*11+j*5)%150]
			holdMode(t, mode, key, iv, s, standardEncrypt(t, mode, key, iv, s))
		}
	}
}

// By the chapter's own words, with the functions that they name.
func TestModesByTheChapter(t *testing.T) {
	for i, s := range modeTexts()[:120] {
		key, iv := threeKeys()[i%3], someIvs()[i%len(someIvs())]
		each, chain, row := "", "", ""
		ahead, padded := iv, impl.Pad(s)
		for at := 0; at < len(padded); at += 16 {
			each += impl.Lock(key, padded[at:at+16])
			ahead = impl.Lock(key, impl.Xor(padded[at:at+16], ahead))
			chain += ahead
			row += impl.Lock(key, impl.Count(iv, at/16))
		}
		holdMode(t, impl.MoEach, key, iv, s, each)
		holdMode(t, impl.MoChain, key, iv, s, chain)
		holdMode(t, impl.MoCount, key, iv, s, impl.Xor(s, row))
	}
}

func TestWhatIsLockedComesBackByWhateverEngine(t *testing.T) {
	for i, s := range append(modeTexts(), padTexts()...) {
		key, iv := threeKeys()[i%3], someIvs()[i%len(someIvs())]
		there, back, mode := i%3, i/3%3, threeModes[i/9%3]
		x, code := impl.Encrypt(there, mode, key, iv, s)
		if code != impl.CoOk || len(x) != impl.Size(mode, len(s)) || len(s) > 16 && x[:16] == s[:16] {
			t.Errorf("by %d, mode %d: %d bytes %.70q are locked as %.70q, %d", there, mode, len(s), s, x, code)
		}
		if got, code := impl.Decrypt(back, mode, key, iv, x); got != s || code != impl.CoOk {
			t.Errorf("by %d and %d, mode %d: %d bytes %.70q come back as %.70q, %d", there, back, mode, len(s), s, got, code)
		}
	}
}

func TestModesOfTheEmptyText(t *testing.T) {
	for _, key := range threeKeys() {
		for _, iv := range someIvs() {
			holdMode(t, impl.MoEach, key, iv, "", impl.Lock(key, strings.Repeat("\x10", 16)))
			holdMode(t, impl.MoChain, key, iv, "", impl.Lock(key, impl.Xor(iv, strings.Repeat("\x10", 16))))
			holdMode(t, impl.MoCount, key, iv, "", "")
		}
	}
}

// Where each block is for itself there is no iv: any text is let be.
func TestEachBlockAsksForNoIv(t *testing.T) {
	for i, s := range modeTexts()[:40] {
		key := threeKeys()[i%3]
		want := standardEncrypt(t, impl.MoEach, key, "", s)
		for _, iv := range []string{"", "x", noughtsBlock[1:], noughtsBlock, onesBlock, onesBlock + "x", strings.Repeat("k", 1<<12)} {
			holdMode(t, impl.MoEach, key, iv, s, want)
		}
	}
	if len(noBlocks()) < 200 {
		t.Fatal("there are few texts that are no block")
	}
	for _, iv := range noBlocks() {
		holdMode(t, impl.MoEach, threeKeys()[0], iv, "a text", standardEncrypt(t, impl.MoEach, threeKeys()[0], "", "a text"))
	}
}

// A counted text is turned by the same row both ways.
func TestCountedIsItsOwnWayBack(t *testing.T) {
	for i, s := range modeTexts() {
		key, iv := threeKeys()[i%3], someIvs()[i%len(someIvs())]
		x, code := impl.Decrypt(i%3, impl.MoCount, key, iv, s)
		if code != impl.CoOk || x != standardRaw(t, impl.MoCount, key, iv, s, false) {
			t.Errorf("Decrypt of %d counted bytes %.70q = %.70q, %d", len(s), s, x, code)
		}
		holdMode(t, impl.MoCount, key, iv, x, s)
	}
}

// What one byte does to others: nothing behind its block where each is for itself, all behind where they are chained, and
// where they are counted nothing at all.
func TestHowFarAByteReaches(t *testing.T) {
	key, iv := threeKeys()[0], "sixteen bytes :)"
	s := manyBlocks(9)[:140]
	for at := range len(s) {
		other := []byte(s)
		other[at] ^= 1 << (at % 8)
		from, to := at/16*16, at/16*16+16
		for _, engine := range threeEngines {
			for _, mode := range threeModes {
				was, _ := impl.Encrypt(engine, mode, key, iv, s)
				is, _ := impl.Encrypt(engine, mode, key, iv, string(other))
				bad := len(is) != len(was) || is[:from] != was[:from] || is[from:] == was[from:]
				switch mode {
				case impl.MoEach:
					bad = bad || is[to:] != was[to:]
				case impl.MoChain:
					for block := from; block < len(is); block += 16 {
						bad = bad || is[block:block+16] == was[block:block+16]
					}
				case impl.MoCount:
					bad = bad || is[:at] != was[:at] || is[at+1:] != was[at+1:] || is[at]^was[at] != 1<<(at%8)
				}
				if bad {
					t.Errorf("by %d, mode %d: byte %d reaches otherwise than it has to", engine, mode, at)
				}
			}
		}
	}
}

// Back from a chain a block that was changed reaches its own place and, bit for bit, the one behind it.
func TestHowFarALockedByteReaches(t *testing.T) {
	key, iv := threeKeys()[2], everyByte()[100:116]
	for at := range 128 {
		for _, mode := range threeModes {
			x := []byte(standardEncrypt(t, mode, key, iv, manyBlocks(10)))
			x[at] ^= 0x40
			want, code := standardDecrypt(t, mode, key, iv, string(x))
			if code != impl.CoOk || want == manyBlocks(10) || want[at/16*16+32:] != manyBlocks(10)[at/16*16+32:] {
				t.Fatalf("byte %d of mode %d reaches further than the standard lets it", at, mode)
			}
			holdDecrypt(t, mode, key, iv, string(x), want, impl.CoOk)
		}
	}
}

// Equal blocks are locked alike only where each is for itself.
func TestEqualBlocks(t *testing.T) {
	for _, key := range threeKeys() {
		s := strings.Repeat("sixteen bytes :)", 40)
		for _, engine := range threeEngines {
			for _, mode := range threeModes {
				x, _ := impl.Encrypt(engine, mode, key, noughtsBlock, s)
				differ := map[string]bool{}
				for at := 0; at < len(s); at += 16 {
					differ[x[at:at+16]] = true
				}
				if want := map[int]int{impl.MoEach: 1, impl.MoChain: 40, impl.MoCount: 40}[mode]; len(differ) != want {
					t.Errorf("by %d, mode %d: of equal blocks %d are locked otherwise, not %d", engine, mode, len(differ), want)
				}
			}
		}
	}
}

// Each bit of a key and of an iv counts, there and back.
func TestEachBitCountsInAMode(t *testing.T) {
	s, x := "a text of more than a block", manyBlocks(2)
	for _, key := range threeKeys() {
		iv := everyByte()[7:23]
		for bit := range 8*len(key) + 128 {
			both := []byte(key + iv)
			both[bit/8] ^= 1 << (bit % 8)
			otherKey, otherIv := string(both[:len(key)]), string(both[len(key):])
			for _, mode := range threeModes {
				engine := threeEngines[bit%3]
				was, _ := impl.Encrypt(engine, mode, key, iv, s)
				is, code := impl.Encrypt(engine, mode, otherKey, otherIv, s)
				if alike := mode == impl.MoEach && otherKey == key; code != impl.CoOk || (is == was) != alike {
					t.Errorf("by %d, mode %d: bit %d makes %q of %q", engine, mode, bit, is, was)
				}
				want, code := standardDecrypt(t, mode, otherKey, otherIv, x)
				if got, is := impl.Decrypt(engine, mode, otherKey, otherIv, x); got != want || is != code {
					t.Errorf("by %d, mode %d: bit %d lets %q come back, %d", engine, mode, bit, got, is)
				}
			}
		}
	}
}

// Texts of all sizes that nobody padded: hardly one of their blocks comes to a padding.
func TestDecryptOfAnyText(t *testing.T) {
	for i, x := range append(textsOfAllSizes(), modeTexts()...) {
		key, iv := threeKeys()[i%3], someIvs()[i%len(someIvs())]
		for _, mode := range threeModes {
			want, code := standardDecrypt(t, mode, key, iv, x)
			holdDecrypt(t, mode, key, iv, x, want, code)
		}
	}
}

func TestDecryptOfTextsThatAreNotWholeBlocks(t *testing.T) {
	key, iv := threeKeys()[1], onesBlock
	for _, s := range []string{"", "abc", manyBlocks(1), manyBlocks(7)[:100]} {
		for _, mode := range []int{impl.MoEach, impl.MoChain} {
			x := standardEncrypt(t, mode, key, iv, s)
			for _, other := range []string{x[:len(x)-1], x[1:], x[:len(x)-15], x + "x", x + x[:15], ""} {
				holdDecrypt(t, mode, key, iv, other, "", impl.CoLength)
			}
		}
	}
	for _, mode := range []int{impl.MoEach, impl.MoChain} {
		holdDecrypt(t, mode, key, iv, strings.Repeat("k", 1<<16-1), "", impl.CoLength)
		holdDecrypt(t, mode, key, iv, strings.Repeat("\u00e9", 16)[1:], "", impl.CoLength)
		holdDecrypt(t, mode, key, iv, "sixteen signs \u00e9x", "", impl.CoLength)
	}
}

// All ends that a last block may have: where they aren't what Pad puts there, nothing comes back of all blocks ahead.
func TestDecryptOfChangedPadding(t *testing.T) {
	key, iv := threeKeys()[0], "sixteen bytes :)"
	for b := range 256 {
		for n := range 19 {
			ahead := manyBlocks(4)[:16*(b%4)]
			run := strings.Repeat(string([]byte{byte(b)}), n)
			whole := (ahead + onesBlock + "some other block")[:len(ahead)+32-n] + run
			for _, mode := range []int{impl.MoEach, impl.MoChain} {
				x := standardRaw(t, mode, key, iv, whole, false)
				want, code := standardDecrypt(t, mode, key, iv, x)
				if (code == impl.CoOk) != (b >= 1 && b <= 16 && n >= b) {
					t.Fatalf("%d bytes %d at the end come to %d", n, b, code)
				}
				holdDecrypt(t, mode, key, iv, x, want, code)
			}
		}
	}
	for n := range 33 {
		s := manyBlocks(3)[:n]
		for _, mode := range []int{impl.MoEach, impl.MoChain} {
			x := paddedByOne(s)
			for at := n; at < len(x); at++ {
				other := []byte(x)
				other[at] ^= 0x80
				holdDecrypt(t, mode, key, iv, standardRaw(t, mode, key, iv, string(other), false), "", impl.CoPadding)
			}
		}
	}
}

// The last block alone tells whether a text was padded, and the one that came ahead of it in a chain.
func TestPaddingGoesByTheChain(t *testing.T) {
	key := threeKeys()[0]
	locked := impl.Lock(key, strings.Repeat("\x10", 16))
	holdDecrypt(t, impl.MoEach, key, onesBlock, locked, "", impl.CoOk)
	holdDecrypt(t, impl.MoChain, key, noughtsBlock, locked, "", impl.CoOk)
	holdDecrypt(t, impl.MoChain, key, onesBlock, locked, "", impl.CoPadding)
	holdDecrypt(t, impl.MoChain, key, noughtsBlock[:15]+"\x11", locked, strings.Repeat("\x10", 15), impl.CoOk)
	holdDecrypt(t, impl.MoEach, key, noughtsBlock, locked+locked, strings.Repeat("\x10", 16), impl.CoOk)
	want, code := standardDecrypt(t, impl.MoChain, key, noughtsBlock, locked+locked)
	holdDecrypt(t, impl.MoChain, key, noughtsBlock, locked+locked, want, code)
	holdDecrypt(t, impl.MoEach, key, "", impl.Lock(key, noughtsBlock), "", impl.CoPadding)
	holdDecrypt(t, impl.MoEach, key, "", impl.Lock(key, strings.Repeat("\x11", 16)), "", impl.CoPadding)
}

// firstReason goes by the reasons in the order in which the chapter names them, but for those of the text.
func firstReason(engine, mode int, key, iv string) int {
	switch {
	case engine < 0 || engine > 2:
		return impl.CoEngine
	case mode < 0 || mode > 2:
		return impl.CoMode
	case len(key) != 16 && len(key) != 24 && len(key) != 32:
		return impl.CoKey
	case mode != 0 && len(iv) != 16:
		return impl.CoIv
	}
	return impl.CoOk
}

// Each reason with each other one: of the text's own Encrypt asks nothing, and Decrypt behind all others.
func TestWhichReasonComesFirst(t *testing.T) {
	texts := []string{"", "x", noughtsBlock, onesBlock + "x", manyBlocks(5), manyBlocks(8)[1:]}
	for _, key := range append(threeKeys(), "", "x", strings.Repeat("k", 17), strings.Repeat("k", 31), strings.Repeat("k", 64)) {
		for _, iv := range []string{"", "x", noughtsBlock, onesBlock[1:], onesBlock + "x", strings.Repeat("k", 24), strings.Repeat("k", 32)} {
			for engine := -2; engine < 6; engine++ {
				for mode := -2; mode < 6; mode++ {
					s := texts[(engine+mode+len(iv)+len(key)+8)%len(texts)]
					if reason := firstReason(engine, mode, key, iv); reason != impl.CoOk {
						refusedMode(t, engine, mode, key, iv, s, reason)
						continue
					}
					x := standardEncrypt(t, mode, key, iv, s)
					want, code := standardDecrypt(t, mode, key, iv, s)
					if got, is := impl.Encrypt(engine, mode, key, iv, s); got != x || is != impl.CoOk {
						t.Errorf("Encrypt(%d, %d, ..) of %q = %q, %d", engine, mode, s, got, is)
					}
					if got, is := impl.Decrypt(engine, mode, key, iv, s); got != want || is != code {
						t.Errorf("Decrypt(%d, %d, ..) of %q = %q, %d, not %q, %d", engine, mode, s, got, is, want, code)
					}
				}
			}
		}
	}
}

// An engine and a mode are no bytes, nor words: of another number nothing is left out.
func TestNumbersThatAreNoEngineOrMode(t *testing.T) {
	key, iv := "sixteen bytes :)", noughtsBlock
	numbers := append(extremes(), 6, 7, 8, 128, 258, 512, -254, 1<<16, 1<<16+1, 1<<32+2, -1<<32+2, 1<<63-256, math.MinInt+2)
	for _, number := range numbers {
		for _, s := range []string{"", "x", noughtsBlock, manyBlocks(6)} {
			if number < 0 || number > 2 {
				for _, other := range numbers {
					refusedMode(t, number, other, key, iv, s, impl.CoEngine)
					refusedMode(t, number, other, "", "", s, impl.CoEngine)
				}
				for _, engine := range threeEngines {
					refusedMode(t, engine, number, key, iv, s, impl.CoMode)
					refusedMode(t, engine, number, "", iv, s, impl.CoMode)
					refusedMode(t, engine, number, key, "", s, impl.CoMode)
					refusedMode(t, engine, number, "", "", s, impl.CoMode)
				}
			}
		}
	}
}

func TestModesWithKeysThatAreNotRight(t *testing.T) {
	texts := []string{"", "x", noughtsBlock, manyBlocks(4), strings.Repeat("k", 63)}
	for i, key := range noKeys() {
		for _, mode := range threeModes {
			refusedMode(t, (i+mode)%3, mode, key, noughtsBlock, texts[i%len(texts)], impl.CoKey)
			refusedMode(t, i%3, mode, key, "", texts[(i+1)%len(texts)], impl.CoKey)
		}
	}
}

func TestModesWithAnIvThatIsNoBlock(t *testing.T) {
	texts := []string{"", "x", noughtsBlock, manyBlocks(4), strings.Repeat("k", 63)}
	for i, iv := range noBlocks() {
		for _, mode := range []int{impl.MoChain, impl.MoCount} {
			refusedMode(t, (i+mode)%3, mode, threeKeys()[i%3], iv, texts[i%len(texts)], impl.CoIv)
		}
	}
}

func TestSize(t *testing.T) {
	for n := range 3000 {
		for mode, want := range []int{(n/16 + 1) * 16, (n/16 + 1) * 16, n} {
			if got := impl.Size(mode, n); got != want {
				t.Errorf("Size(%d, %d) = %d, not %d", mode, n, got, want)
			}
		}
	}
	for _, c := range [][3]int{
		{0, 1000000000, 1000000016}, {1, 1000000000, 1000000016}, {2, 1000000000, 1000000000}, {0, 999999999, 1000000000},
		{1, 999999999, 1000000000}, {2, 999999999, 999999999}, {0, 999999983, 999999984}, {0, 999999984, 1000000000},
		{0, 1000000001, -1}, {1, 1000000001, -1}, {2, 1000000001, -1}, {0, -1, -1}, {1, -1, -1}, {2, -1, -1}, {3, -1, -1}, {3, 0, -1},
		{-1, 0, -1}, {-1, 1000000001, -1}, {256, 5, -1}, {1 << 32, 5, -1}, {1<<32 + 2, 5, -1}, {-1 << 32, 5, -1},
	} {
		if got := impl.Size(c[0], c[1]); got != c[2] {
			t.Errorf("Size(%d, %d) = %d, not %d", c[0], c[1], got, c[2])
		}
	}
}

func TestSizeOfNumbersOutside(t *testing.T) {
	for _, n := range append(extremes(), -16, 1000000002, 1000000016, 1<<32+5, math.MaxInt-15, math.MaxInt-16) {
		for _, mode := range append(extremes(), 258, 1<<32+2) {
			want := -1
			if n >= 0 && n <= 1000000000 && mode >= 0 && mode <= 2 {
				want = n
				for mode != 2 && (want == n || want%16 != 0) {
					want++
				}
			}
			if got := impl.Size(mode, n); got != want {
				t.Errorf("Size(%d, %d) = %d, not %d", mode, n, got, want)
			}
		}
	}
}

// What was locked, unlocked or refused in one call doesn't come into another one.
func TestModesKeepNothing(t *testing.T) {
	for i, s := range modeTexts()[20:60] {
		key, iv := threeKeys()[i%3], someIvs()[i%len(someIvs())]
		for _, mode := range threeModes {
			want := standardEncrypt(t, mode, key, iv, s)
			for _, engine := range threeEngines {
				refusedMode(t, engine+3, mode, key, iv, s, impl.CoEngine)
				refusedMode(t, engine, mode+3, key, iv, s, impl.CoMode)
				refusedMode(t, engine, mode, key[1:], iv, s, impl.CoKey)
				for _, other := range threeModes {
					impl.Encrypt(engine, other, threeKeys()[(i+1)%3], onesBlock, manyBlocks(9))
					impl.Decrypt(engine, other, threeKeys()[(i+2)%3], onesBlock, manyBlocks(9))
				}
			}
			holdMode(t, mode, key, iv, s, want)
		}
	}
}

func TestModesAnswerInNewMemory(t *testing.T) {
	for i, s := range modeTexts() {
		if len(s) == 1 {
			continue // Go itself keeps one copy of each text of one byte
		}
		key, iv := threeKeys()[i%3], someIvs()[i%len(someIvs())]
		for _, mode := range threeModes {
			x := standardEncrypt(t, mode, key, iv, s)
			for _, engine := range threeEngines {
				lock := func(text string) string { return first(impl.Encrypt(engine, mode, key, iv, text)) }
				unlock := func(text string) string { return first(impl.Decrypt(engine, mode, key, iv, text)) }
				holdNewMemory(t, "Encrypt", s, x, lock)
				holdNewMemory(t, "Decrypt", x, s, unlock)
				locked, unlocked := lock(s), unlock(x)
				if liesIn(locked, key) || liesIn(locked, iv) || liesIn(unlocked, key) || liesIn(unlocked, iv) {
					t.Errorf("by %d, mode %d: the answer to %d bytes lies in a key or an iv", engine, mode, len(s))
				}
			}
			if key != threeKeys()[i%3] || iv != someIvs()[i%len(someIvs())] {
				t.Errorf("mode %d writes into its key or its iv", mode)
			}
		}
	}
	whole := everyByte()
	for _, engine := range threeEngines {
		for _, mode := range threeModes {
			impl.Encrypt(engine, mode, whole[:32], whole[16:32], whole[40:77])
			impl.Decrypt(engine, mode, whole[:32], whole[16:32], whole[64:128])
		}
	}
	if whole != everyByte() {
		t.Error("what stands around an argument is written into")
	}
}

func first(text string, _ int) string { return text }

func TestModesAtTheSameTime(t *testing.T) {
	var all sync.WaitGroup
	for i, key := range slices.Repeat(threeKeys(), 3) {
		all.Go(func() {
			for n := range 60 {
				s, iv, mode := manyBlocks(12)[i:][:3*n], someBlocks()[n], n%3
				x, code := impl.Encrypt(i%3, mode, key, iv, s)
				got, back := impl.Decrypt((i+n)%3, mode, key, iv, x)
				if code != impl.CoOk || back != impl.CoOk || got != s || len(x) != impl.Size(mode, len(s)) {
					t.Errorf("at place %d, mode %d: %d bytes come back as %q", i, mode, len(s), got)
				}
			}
		})
	}
	all.Wait()
}

// What works at the same time is done when the answer is there. (One that has said so may take a moment to be gone.)
func TestNothingWorksOn(t *testing.T) {
	running := runtime.NumGoroutine()
	for i, s := range modeTexts() {
		for _, mode := range threeModes {
			x, _ := impl.Encrypt(i%3, mode, threeKeys()[i%3], noughtsBlock, s)
			impl.Decrypt(i%3, mode, threeKeys()[i%3], noughtsBlock, x)
			impl.Decrypt(i%3, mode, threeKeys()[i%3], noughtsBlock, s)
		}
	}
	for range 2000 {
		if runtime.NumGoroutine() <= running {
			return
		}
		time.Sleep(time.Millisecond)
	}
	t.Errorf("%d work on", runtime.NumGoroutine()-running)
}
