package tests

import (
	"crypto/aes"
	"slices"
	"strings"
	"sync"
	"testing"

	"loop.example/g00835/impl"
)

var threeEngines = []int{impl.EnByte, impl.EnTable, impl.EnSlice}

// A blocksTeller is LockBlocks or UnlockBlocks, with what it does to one block.
type blocksTeller struct {
	name   string
	tell   func(int, string, string) (string, int)
	single func(string, string) string
	sliced func(string, string) string
	back   bool
}

func blocksThere() blocksTeller {
	return blocksTeller{"LockBlocks", impl.LockBlocks, impl.Lock, impl.LockSliced, false}
}

func blocksBack() blocksTeller {
	return blocksTeller{"UnlockBlocks", impl.UnlockBlocks, impl.Unlock, impl.UnlockSliced, true}
}

// holdBlocks asks all three engines, and what is sliced.
func holdBlocks(t *testing.T, way blocksTeller, key, s, want string) {
	t.Helper()
	for _, engine := range threeEngines {
		if got, code := way.tell(engine, key, s); got != want || code != impl.CoOk {
			t.Errorf("%s by %d with %q of %d bytes %.70q = %.70q, %d, not %.70q", way.name, engine, key, len(s), s, got, code, want)
		}
	}
	if got := way.sliced(key, s); got != want {
		t.Errorf("%s, sliced, with %q of %d bytes %.70q = %.70q, not %.70q", way.name, key, len(s), s, got, want)
	}
}

// refusedBlocks asks what is sliced only where its number of an engine is given.
func refusedBlocks(t *testing.T, engine int, key, s string, want int) {
	t.Helper()
	for _, way := range []blocksTeller{blocksThere(), blocksBack()} {
		if got, code := way.tell(engine, key, s); got != "" || code != want {
			t.Errorf("%s(%d, ..) of %d and %d bytes = %.70q, %d, not %d", way.name, engine, len(key), len(s), got, code, want)
		}
		if got := way.sliced(key, s); engine == impl.EnSlice && got != "" {
			t.Errorf("%s, sliced, of %d and %d bytes = %.70q", way.name, len(key), len(s), got)
		}
	}
}

// standardBlocks is what the standard makes of each block of a text, there or back.
func standardBlocks(t *testing.T, key, s string, back bool) string {
	t.Helper()
	standard, err := aes.NewCipher([]byte(key))
	if err != nil {
		t.Fatal(err)
	}
	made := make([]byte, len(s))
	for at := 0; at < len(s); at += 16 {
		if back {
			standard.Decrypt(made[at:], []byte(s[at:]))
		} else {
			standard.Encrypt(made[at:], []byte(s[at:]))
		}
	}
	return string(made)
}

// manyBlocks has so many blocks that all differ.
func manyBlocks(n int) string {
	var text strings.Builder
	for i := range n {
		text.WriteString(impl.PutWord(i*0x01000193) + "block no " + impl.PutWord(i)[1:])
	}
	return text.String()
}

// blockCases has keys of each size with four blocks and their locks as papers on the standard print them.
func blockCases() [][3]string {
	four := "6bc1bee22e409f96e93d7e117393172aae2d8a571e03ac9c9eb76fac45af8e5130c81c46a35ce411e5fbc1191a0a52eff69f2445df4f9b17ad2b417be66c3710"
	return [][3]string{
		{"2b7e151628aed2a6abf7158809cf4f3c", four,
			"3ad77bb40d7a3660a89ecaf32466ef97f5d3d58503b9699de785895a96fdbaaf43b1cd7f598ece23881b00e3ed0306887b0c785e27e8ad3f8223207104725dd4"},
		{"8e73b0f7da0e6452c810f32b809079e562f8ead2522c6b7b", four,
			"bd334f1d6e45f25ff712a214571fa5cc974104846d0ad3ad7734ecb3ecee4eefef7afd2270e2e60adce0ba2face6444e9a4b41ba738d6c72fb16691603c18e0e"},
		{"603deb1015ca71be2b73aef0857d77811f352c073b6108d72d9810a30914dff4", four,
			"f3eed1bdb5d2a03c064b5a7e3db181f8591ccb10d410ed26dc5ba74a31362870b6ed21b99ca6f4f9f153e7b1beafed1d23304b7a39f9f3ff067d8d8f9e24ecc7"},
	}
}

func TestNumbersOfEnginesAndCodes(t *testing.T) {
	got := []int{
		impl.EnByte, impl.EnTable, impl.EnSlice, impl.CoOk, impl.CoEngine, impl.CoMode, impl.CoKey, impl.CoIv, impl.CoLength,
		impl.CoPadding, impl.CoSeal,
	}
	if want := []int{0, 1, 2, 0, 1, 2, 3, 4, 5, 6, 7}; !slices.Equal(got, want) {
		t.Errorf("engines and codes are %d, not %d", got, want)
	}
}

// From each of the four blocks on, so many: fewer than four, more than four, and what is left behind fours.
func TestBlocksAsTheStandardPrints(t *testing.T) {
	for _, c := range blockCases() {
		key := keyOfHex(t, c[0])
		text, _ := impl.Unhex(c[1] + c[1] + c[1])
		locked, _ := impl.Unhex(c[2] + c[2] + c[2])
		for from := 0; from <= 4; from++ {
			for to := from; to <= 12; to++ {
				holdBlocks(t, blocksThere(), key, text[16*from:16*to], locked[16*from:16*to])
				holdBlocks(t, blocksBack(), key, locked[16*from:16*to], text[16*from:16*to])
			}
		}
	}
	for _, c := range lockCases() {
		key, block, locked := keyOfHex(t, c[0]), blockOfHex(t, c[1]), blockOfHex(t, c[2])
		holdBlocks(t, blocksThere(), key, block, locked)
		holdBlocks(t, blocksBack(), key, locked, block)
	}
}

func TestTextsOfAllNumbersOfBlocks(t *testing.T) {
	for i, key := range threeKeys() {
		for n := range 71 {
			s := manyBlocks(100)[16*i:][:16*n]
			for _, way := range []blocksTeller{blocksThere(), blocksBack()} {
				want := blockwise(func(block string) string { return way.single(key, block) })(s)
				if len(want) != len(s) || want != standardBlocks(t, key, s, way.back) {
					t.Fatalf("%d blocks are not as the standard has them", n)
				}
				holdBlocks(t, way, key, s, want)
			}
		}
	}
}

func TestAllEnginesTellTheSame(t *testing.T) {
	all := strings.Join(someBlocks(), "")
	for i, key := range someKeys() {
		n, from := i%10, i*7%(len(all)/16-10)
		s := all[16*from:][:16*n]
		for _, way := range []blocksTeller{blocksThere(), blocksBack()} {
			holdBlocks(t, way, key, s, standardBlocks(t, key, s, way.back))
		}
	}
	for _, key := range threeKeys() {
		for _, way := range []blocksTeller{blocksThere(), blocksBack()} {
			holdBlocks(t, way, key, all, standardBlocks(t, key, all, way.back))
		}
	}
}

// One block is what Lock and Unlock tell of it.
func TestBlocksThatAreAlone(t *testing.T) {
	for i, s := range someBlocks() {
		key := threeKeys()[i%3]
		for _, way := range []blocksTeller{blocksThere(), blocksBack()} {
			holdBlocks(t, way, key, s, way.single(key, s))
		}
	}
}

// There are more places than a byte has numbers.
func TestLongTexts(t *testing.T) {
	for i, n := range []int{255, 256, 257, 1000, 2049, 4099} {
		key := threeKeys()[i%3]
		s := manyBlocks(n)
		for _, way := range []blocksTeller{blocksThere(), blocksBack()} {
			holdBlocks(t, way, key, s, standardBlocks(t, key, s, way.back))
		}
	}
}

// Wherever a text is cut in blocks, its parts have the locks that they have together.
func TestBlocksAreLockedByThemselves(t *testing.T) {
	for _, key := range threeKeys() {
		for n := range 14 {
			s := manyBlocks(n)
			for _, way := range []blocksTeller{blocksThere(), blocksBack()} {
				for _, engine := range threeEngines {
					whole, _ := way.tell(engine, key, s)
					for at := 0; at <= len(s); at += 16 {
						ahead, _ := way.tell(engine, key, s[:at])
						behind, _ := way.tell(engine, key, s[at:])
						if whole != ahead+behind || len(ahead) != at {
							t.Errorf("%s by %d of %d blocks is another one where they are cut at %d", way.name, engine, n, at)
						}
					}
				}
			}
		}
	}
}

// A bit of a block changes what comes of it, and nothing of what comes of others.
func TestABlockChangesNoOther(t *testing.T) {
	key := threeKeys()[1]
	for _, n := range []int{1, 2, 3, 4, 5, 7, 8, 9} {
		for place := range n {
			s := []byte(manyBlocks(n))
			other := slices.Clone(s)
			other[16*place+place] ^= 1 << (place % 8)
			for _, way := range []blocksTeller{blocksThere(), blocksBack()} {
				for _, engine := range threeEngines {
					was, _ := way.tell(engine, key, string(s))
					is, _ := way.tell(engine, key, string(other))
					if len(is) != len(was) || is[:16*place] != was[:16*place] || is[16*place+16:] != was[16*place+16:] || is == was {
						t.Errorf("%s by %d: block %d of %d changes what isn't its own", way.name, engine, place, n)
					}
				}
			}
		}
	}
}

// The same block comes to the same at each place; blocks that are put in another order come in that order.
func TestPlacesOfBlocks(t *testing.T) {
	for _, key := range threeKeys() {
		block := "sixteen bytes :)"
		for n := range 18 {
			for _, way := range []blocksTeller{blocksThere(), blocksBack()} {
				holdBlocks(t, way, key, strings.Repeat(block, n), strings.Repeat(way.single(key, block), n))
				var there, turned string
				for place := range n {
					one := someBlocks()[place*11+9]
					there, turned = there+way.single(key, one), one+turned
				}
				want := ""
				for at := len(there); at > 0; at -= 16 {
					want += there[at-16 : at]
				}
				holdBlocks(t, way, key, turned, want)
			}
		}
	}
}

func TestBlocksComeBackByWhateverEngine(t *testing.T) {
	for i, key := range append(threeKeys(), someKeys()[:20]...) {
		s := manyBlocks(20)[16*(i%7):][:16*(i%12)]
		for _, there := range threeEngines {
			locked, code := impl.LockBlocks(there, key, s)
			if code != impl.CoOk || len(locked) != len(s) || len(s) > 0 && locked == s {
				t.Fatalf("by %d %q is locked as %q, %d", there, s, locked, code)
			}
			holdBlocks(t, blocksBack(), key, locked, s)
			unlocked, code := impl.UnlockBlocks(there, key, s)
			if code != impl.CoOk || len(unlocked) != len(s) {
				t.Fatalf("by %d %q is unlocked as %q, %d", there, s, unlocked, code)
			}
			holdBlocks(t, blocksThere(), key, unlocked, s)
		}
		if impl.UnlockSliced(key, impl.LockSliced(key, s)) != s || impl.LockSliced(key, impl.UnlockSliced(key, s)) != s {
			t.Errorf("sliced with %q %q doesn't come back", key, s)
		}
	}
}

// No block is no reason: of no bytes none are told, and the code is CoOk.
func TestTextsOfNoBlock(t *testing.T) {
	for _, key := range someKeys() {
		holdBlocks(t, blocksThere(), key, "", "")
		holdBlocks(t, blocksBack(), key, "", "")
	}
}

func TestCodesOfBlocks(t *testing.T) {
	key, block := "sixteen bytes :)", "0123456789abcdef"
	for _, c := range []struct {
		engine int
		key, s string
		want   int
	}{
		{3, key, block, impl.CoEngine}, {-1, key, block, impl.CoEngine}, {3, "", block, impl.CoEngine}, {3, key, "x", impl.CoEngine},
		{3, "", "x", impl.CoEngine}, {3, key, "", impl.CoEngine}, {0, "", block, impl.CoKey}, {1, key + "x", block, impl.CoKey},
		{2, key[1:], block, impl.CoKey}, {0, "", "", impl.CoKey}, {1, key + "x", "x", impl.CoKey}, {2, "", "x", impl.CoKey},
		{0, key, "x", impl.CoLength}, {1, key, block[1:], impl.CoLength}, {2, key, block + "x", impl.CoLength},
	} {
		refusedBlocks(t, c.engine, c.key, c.s, c.want)
	}
}

// An engine isn't a byte, nor a word: of another number nothing is left out. The first reason counts.
func TestEnginesThatAreNone(t *testing.T) {
	numbers := append(extremes(), 6, 7, 8, 128, 258, 512, 514, -254, 1<<16, 1<<16+1, 1<<32+2, 1<<33, 1<<33+2, -1<<32+2, 1<<63-256)
	texts := []string{"", "x", "0123456789abcdef", "0123456789abcde", strings.Repeat("0123456789abcdef", 5), strings.Repeat("k", 65)}
	for _, engine := range numbers {
		for _, key := range append(threeKeys(), "", "x", strings.Repeat("k", 17), strings.Repeat("k", 64)) {
			for _, s := range texts {
				switch {
				case engine < 0 || engine > 2:
					refusedBlocks(t, engine, key, s, impl.CoEngine)
				case !impl.KeyOk(key):
					refusedBlocks(t, engine, key, s, impl.CoKey)
				case len(s)%16 != 0:
					refusedBlocks(t, engine, key, s, impl.CoLength)
				default:
					holdBlocks(t, blocksThere(), key, s, standardBlocks(t, key, s, false))
				}
			}
		}
	}
}

func TestBlocksWithKeysThatAreNotRight(t *testing.T) {
	texts := []string{"", "0123456789abcdef", "x", strings.Repeat("0123456789abcdef", 4), strings.Repeat("k", 63)}
	for i, key := range noKeys() {
		for _, engine := range threeEngines {
			refusedBlocks(t, engine, key, texts[(i+engine)%len(texts)], impl.CoKey)
		}
	}
}

func TestTextsThatAreNotWholeBlocks(t *testing.T) {
	for _, key := range threeKeys() {
		for _, s := range textsOfAllSizes() {
			if len(s)%16 == 0 {
				continue
			}
			for _, engine := range threeEngines {
				refusedBlocks(t, engine, key, s, impl.CoLength)
			}
		}
		// Bytes count, not signs: of sixteen signs two blocks may come, and one of eight.
		holdBlocks(t, blocksThere(), key, strings.Repeat("\u00e9", 16), standardBlocks(t, key, strings.Repeat("\u00e9", 16), false))
		holdBlocks(t, blocksBack(), key, strings.Repeat("\u00e9", 8), standardBlocks(t, key, strings.Repeat("\u00e9", 8), true))
		for _, engine := range threeEngines {
			refusedBlocks(t, engine, key, "sixteen signs \u00e9x", impl.CoLength)
			refusedBlocks(t, engine, key, strings.Repeat("k", 1<<16+1), impl.CoLength)
			refusedBlocks(t, engine, key, strings.Repeat("k", 1<<16-1), impl.CoLength)
		}
	}
}

// All sizes of both, for each engine: a code only where a reason is, and as many bytes as are given.
func TestSizesOfKeysAndTexts(t *testing.T) {
	for n := range 36 {
		for m := range 84 {
			key, s := strings.Repeat("k", n), strings.Repeat("s", m)
			want := impl.CoOk
			if !impl.KeyOk(key) {
				want = impl.CoKey
			} else if m%16 != 0 {
				want = impl.CoLength
			}
			for _, way := range []blocksTeller{blocksThere(), blocksBack()} {
				for _, engine := range threeEngines {
					got, code := way.tell(engine, key, s)
					if code != want || want == impl.CoOk && len(got) != m || want != impl.CoOk && got != "" {
						t.Errorf("%s by %d of %d and %d bytes = %q, %d", way.name, engine, n, m, got, code)
					}
				}
				if got := way.sliced(key, s); want == impl.CoOk && len(got) != m || want != impl.CoOk && got != "" {
					t.Errorf("%s, sliced, of %d and %d bytes = %q", way.name, n, m, got)
				}
			}
		}
	}
}

// Blocks that waited, tables and keys of one call don't come into another one.
func TestEnginesKeepNothing(t *testing.T) {
	s := manyBlocks(6)
	for _, key := range threeKeys() {
		for _, way := range []blocksTeller{blocksThere(), blocksBack()} {
			want := standardBlocks(t, key, s, way.back)
			for _, other := range threeKeys() {
				for _, engine := range threeEngines {
					refusedBlocks(t, engine, other, s[:40], impl.CoLength)
					refusedBlocks(t, engine, other[1:], s, impl.CoKey)
					refusedBlocks(t, engine+3, other, s, impl.CoEngine)
					impl.LockBlocks(engine, other, manyBlocks(9))
					impl.UnlockBlocks(engine, other, manyBlocks(3))
					holdBlocks(t, way, key, s, want)
				}
			}
		}
	}
}

func TestBlocksAnswerInNewMemory(t *testing.T) {
	for _, way := range []blocksTeller{blocksThere(), blocksBack()} {
		for i, key := range threeKeys() {
			for n := range 9 {
				s, was := manyBlocks(n), strings.Clone(manyBlocks(n))
				answers := []string{way.sliced(key, s), way.sliced(key, s)}
				for _, engine := range threeEngines {
					first, _ := way.tell(engine, key, s)
					second, _ := way.tell(engine, key, s)
					answers = append(answers, first, second)
				}
				for at, one := range answers {
					if one != answers[0] || liesIn(one, s) || liesIn(one, key) {
						t.Errorf("%s of %d blocks is no new memory", way.name, n)
					}
					for _, other := range answers[at+1:] {
						if liesIn(one, other) || liesIn(other, one) {
							t.Errorf("two answers of %s of %d blocks share memory", way.name, n)
						}
					}
				}
				if s != was || key != threeKeys()[i] {
					t.Errorf("%s writes into its arguments", way.name)
				}
			}
		}
		whole := everyByte()
		for _, engine := range threeEngines {
			if got, _ := way.tell(engine, whole[:32], whole[16:96]); whole != everyByte() || len(got) != 80 || liesIn(got, whole) {
				t.Errorf("%s by %d reaches out of its arguments", way.name, engine)
			}
		}
	}
}

func TestEnginesAtTheSameTime(t *testing.T) {
	var all sync.WaitGroup
	for i, key := range slices.Repeat(threeKeys(), 3) {
		all.Go(func() {
			for n := range 12 {
				s := manyBlocks(n)
				locked, code := impl.LockBlocks(i%3, key, s)
				got, back := impl.UnlockBlocks((i+n)%3, key, locked)
				if code != impl.CoOk || back != impl.CoOk || got != s || impl.LockSliced(key, s) != locked {
					t.Errorf("at place %d: %d blocks come back as %q", i, n, got)
				}
			}
		})
	}
	all.Wait()
}
