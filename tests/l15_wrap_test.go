package tests

import (
	"math/big"
	"slices"
	"strings"
	"sync"
	"testing"

	"loop.example/g00835/impl"
)

// standardMark is what stands ahead of a text that is wrapped.
var standardMark = strings.Repeat("\xa6", 8)

// wrapSizes are all those that can be wrapped.
var wrapSizes = []int{16, 24, 32, 40, 48, 56, 64}

// wrapTexts has texts of each size, keys and others.
func wrapTexts() []string {
	var texts []string
	for i, n := range wrapSizes {
		texts = append(texts, noughtsOf(n), strings.Repeat("\xff", n), strings.Repeat("\xa6", n), strings.Repeat("\u00e9", n/2))
		texts = append(texts, strings.Repeat("\n", n), everyByte()[i*20:][:n], everyByte()[256-n:], manyBlocks(9)[i*11:][:n])
		for at := 0; at < n; at += 5 {
			texts = append(texts, changedBit(noughtsOf(n), 8*at+at%8))
		}
	}
	return append(texts, someKeys()...)
}

func noughtsOf(n int) string { return strings.Repeat("\x00", n) }

// wrapByTheChapter takes any mark for a, so that there are texts that only their mark tells from wraps.
func wrapByTheChapter(t *testing.T, key, mark, s string) string {
	t.Helper()
	n, a, r := len(s)/8, mark, append([]string{""}, piecesOf(s, 8)...)
	for times := range 6 {
		for i := 1; i <= n; i++ {
			b := standardLock(t, key, a+r[i], false)
			a, r[i] = impl.Xor(b[:8], eightBytes(n*times+i)), b[8:]
		}
	}
	return a + strings.Join(r, "")
}

// eightBytes are a number, the highest byte first.
func eightBytes(n int) string { return blockOfNumber(big.NewInt(int64(n)))[8:] }

// unwrapByTheChapter goes back the way of wrapByTheChapter: the mark, and the text behind it.
func unwrapByTheChapter(t *testing.T, key, x string) (string, string) {
	t.Helper()
	r := piecesOf(x, 8)
	n, a := len(r)-1, r[0]
	for times := 5; times >= 0; times-- {
		for i := n; i >= 1; i-- {
			b := standardLock(t, key, impl.Xor(a, eightBytes(n*times+i))+r[i], true)
			a, r[i] = b[:8], b[8:]
		}
	}
	return a, strings.Join(r[1:], "")
}

func holdWrap(t *testing.T, key, s, want string) {
	t.Helper()
	if got, code := impl.Wrap(key, s); got != want || code != impl.CoOk {
		t.Errorf("Wrap of %d bytes %q = %q, %d, not %q", len(s), s, got, code, want)
	}
	if got, code := impl.Unwrap(key, want); got != s || code != impl.CoOk {
		t.Errorf("Unwrap of %d bytes %q = %q, %d, not %q", len(want), want, got, code, s)
	}
}

func refusedWrap(t *testing.T, key, s string, want int) {
	t.Helper()
	if got, code := impl.Wrap(key, s); got != "" || code != want {
		t.Errorf("Wrap with a key of %d bytes of %d bytes %.70q = %.70q, %d, not %d", len(key), len(s), s, got, code, want)
	}
}

func refusedUnwrap(t *testing.T, key, x string, want int) {
	t.Helper()
	if got, code := impl.Unwrap(key, x); got != "" || code != want {
		t.Errorf("Unwrap with a key of %d bytes of %d bytes %.70q = %.70q, %d, not %d", len(key), len(x), x, got, code, want)
	}
}

// Keys in keys that papers on the standard's wraps print.
func TestWrapAsTheStandardPrints(t *testing.T) {
	key, s := everyByte()[:32], textOfHex(t, "00112233445566778899aabbccddeeff")
	for _, c := range []struct{ key, s, want string }{
		{key[:16], s, "1fa68b0a8112b447aef34bd8fb5a7b829d3e862371d2cfe5"},
		{key[:24], s, "96778b25ae6ca435f92b5b97c050aed2468ab8a17ad84e5d"},
		{key, s, "64e8c3f9ce0f5ba263e9777905818a2a93c8191e7d6e8ae7"},
		{key[:24], s + key[:8], "031d33264e15d33268f24ec260743edce1c6c7ddee725a936ba814915c6762d2"},
		{key, s + key[:8], "a8f9bc1612c68b3ff6e6f4fbe30e71e4769c8b80a32cb8958cd5d17d6b254da1"},
		{key, s + key[:16], "28c9f404c4b810f4cbccb35cfb87f8263f5786e2d80ed326cbc7f0e71a99f43bfb988b9b7a02dd21"},
	} {
		holdWrap(t, c.key, c.s, textOfHex(t, c.want))
	}
}

func TestWrapByTheChapter(t *testing.T) {
	for i, s := range wrapTexts() {
		for _, key := range append(threeKeys(), someKeys()[i%len(someKeys())]) {
			holdWrap(t, key, s, wrapByTheChapter(t, key, standardMark, s))
		}
	}
	for i, key := range someKeys() {
		for _, n := range wrapSizes {
			s := manyBlocks(9)[i%60:][:n]
			holdWrap(t, key, s, wrapByTheChapter(t, key, standardMark, s))
		}
	}
}

func TestEachKeyInEachKey(t *testing.T) {
	keys := someKeys()
	for i, key := range keys {
		for j := i % 3; j < len(keys); j += 3 {
			x, one := impl.Wrap(key, keys[j])
			back, two := impl.Unwrap(key, x)
			if len(x) != len(keys[j])+8 || one != impl.CoOk || back != keys[j] || two != impl.CoOk {
				t.Errorf("key %d in key %d comes back as %q, %d", j, i, back, two)
			}
		}
	}
}

// A wrap can be wrapped itself, as long as it isn't too long; what comes back of one wrap too many is the one inside.
func TestWrapsInWraps(t *testing.T) {
	for i, key := range someKeys() {
		s := someKeys()[(i*7+3)%len(someKeys())]
		wraps := []string{s}
		for last := s; len(last) <= impl.MaxWrap; wraps = append(wraps, last) {
			want := wrapByTheChapter(t, key, standardMark, last)
			holdWrap(t, key, last, want)
			last = want
		}
		longest := wraps[len(wraps)-1]
		if len(longest) != 72 {
			t.Errorf("the last wrap has %d bytes", len(longest))
		}
		refusedWrap(t, key, longest, impl.CoLength)
		for at := len(wraps) - 1; at > 0; at-- {
			if got, code := impl.Unwrap(key, wraps[at]); got != wraps[at-1] || code != impl.CoOk {
				t.Errorf("wrap %d in key %d comes back as %q, %d", at, i, got, code)
			}
		}
	}
}

// Each size that there may be, and those around, down to none at all.
func TestSizesOfWraps(t *testing.T) {
	for n := range 300 {
		for i, key := range threeKeys() {
			for _, s := range []string{noughtsOf(n), strings.Repeat("\xa6", n), manyBlocks(30)[i:][:n]} {
				if slices.Contains(wrapSizes, n) {
					holdWrap(t, key, s, wrapByTheChapter(t, key, standardMark, s))
				} else {
					refusedWrap(t, key, s, impl.CoLength)
				}
				if slices.Contains(wrapSizes, n-8) {
					refusedUnwrap(t, key, s, impl.CoSeal)
				} else {
					refusedUnwrap(t, key, s, impl.CoLength)
				}
			}
		}
	}
	for _, n := range []int{1 << 8, 1<<8 + 16, 1<<8 + 24, 1 << 16, 1<<16 + 16, 1<<16 + 24, 1<<16 + 64, 1<<20 + 32} {
		for _, key := range threeKeys() {
			refusedWrap(t, key, strings.Repeat("k", n), impl.CoLength)
			refusedUnwrap(t, key, strings.Repeat("k", n), impl.CoLength)
		}
	}
	if impl.MaxWrap != 64 {
		t.Errorf("MaxWrap is %d", impl.MaxWrap)
	}
}

// A part more or fewer is another text, or a size that no wrap has; a byte more or fewer is always one.
func TestWrapsThatAreCutOrGoOn(t *testing.T) {
	for i, s := range wrapTexts() {
		key := threeKeys()[i%3]
		x := wrapByTheChapter(t, key, standardMark, s)
		for n := range x {
			want := impl.CoLength
			if n >= 24 && n%8 == 0 {
				want = impl.CoSeal
			}
			refusedUnwrap(t, key, x[:n], want)
			refusedUnwrap(t, key, x[len(x)-n:], want)
		}
		for _, more := range []string{"\x00", "x", noughtsOf(7), noughtsOf(8), standardMark, x[:8], x[len(x)-8:], s[:9]} {
			want := impl.CoLength
			if len(more) == 8 && len(s) < impl.MaxWrap {
				want = impl.CoSeal
			}
			refusedUnwrap(t, key, x+more, want)
			refusedUnwrap(t, key, more+x, want)
		}
	}
}

// Each bit of all that is given to Unwrap counts.
func TestAWrapTellsOfEachChangedBit(t *testing.T) {
	for i, key := range threeKeys() {
		for _, n := range wrapSizes {
			s := manyBlocks(9)[i+n:][:n]
			x := wrapByTheChapter(t, key, standardMark, s)
			for bit := range 8 * len(x) {
				refusedUnwrap(t, key, changedBit(x, bit), impl.CoSeal)
			}
			for bit := range 8 * len(key) {
				refusedUnwrap(t, changedBit(key, bit), x, impl.CoSeal)
			}
			for _, other := range append(threeKeys(), sealKeys()...) {
				if other != key {
					refusedUnwrap(t, other, x, impl.CoSeal)
				}
			}
			holdWrap(t, key, s, x)
		}
	}
}

// All bytes of the mark count, each for itself: what comes back with nearly the right one was never wrapped.
func TestUnwrapWithOtherMarks(t *testing.T) {
	for i, n := range wrapSizes {
		key, s := threeKeys()[i%3], manyBlocks(9)[n:][:n]
		for bit := range 64 {
			refusedUnwrap(t, key, wrapByTheChapter(t, key, changedBit(standardMark, bit), s), impl.CoSeal)
		}
		for _, mark := range []string{noughtsOf(8), strings.Repeat("\xff", 8), strings.Repeat("\x6a", 8), "\xa6\x59\x59\xa6\xa6\xa6\xa6\xa6", "\xa6\x59\x59\xa6\x00\x00\x00" + string(rune(n)), s[:8], key[:8]} {
			refusedUnwrap(t, key, wrapByTheChapter(t, key, mark, s), impl.CoSeal)
		}
	}
	key, s := threeKeys()[2], someKeys()[20][:16]
	for at := range 8 {
		for b := range 256 {
			mark := []byte(standardMark)
			mark[at] = byte(b)
			x := wrapByTheChapter(t, key, string(mark), s)
			if string(mark) == standardMark {
				holdWrap(t, key, s, x)
			} else {
				refusedUnwrap(t, key, x, impl.CoSeal)
			}
		}
	}
}

// Of any text of a right size it is known whether there is one of which it is the wrap.
func TestUnwrapOfAnyTexts(t *testing.T) {
	whole := manyBlocks(60)
	for i, key := range append(threeKeys(), sealKeys()...) {
		for _, n := range wrapSizes {
			for at := i; at+n+8 <= len(whole); at += 41 {
				x := whole[at : at+n+8]
				mark, s := unwrapByTheChapter(t, key, x)
				if wrapByTheChapter(t, key, mark, s) != x {
					t.Fatalf("%q isn't what it was by the chapter", x)
				}
				if mark == standardMark {
					holdWrap(t, key, s, x)
				} else {
					refusedUnwrap(t, key, x, impl.CoSeal)
				}
			}
		}
	}
}

// Parts in another order, or out of the wraps of others, are no wrap.
func TestWrapsWithOtherParts(t *testing.T) {
	for i, n := range wrapSizes {
		key, s := threeKeys()[i%3], manyBlocks(9)[n:][:n]
		x := wrapByTheChapter(t, key, standardMark, s)
		other := wrapByTheChapter(t, key, standardMark, changedBit(s, n))
		for at := range n/8 + 1 {
			for behind := at + 1; behind <= n/8; behind++ {
				parts := piecesOf(x, 8)
				parts[at], parts[behind] = parts[behind], parts[at]
				refusedUnwrap(t, key, strings.Join(parts, ""), impl.CoSeal)
				parts[at] = parts[behind]
				refusedUnwrap(t, key, strings.Join(parts, ""), impl.CoSeal)
			}
			for _, part := range []string{other[8*at:][:8], noughtsOf(8), standardMark} {
				parts := piecesOf(x, 8)
				parts[at] = part
				refusedUnwrap(t, key, strings.Join(parts, ""), impl.CoSeal)
			}
		}
		refusedUnwrap(t, key, standardMark+s, impl.CoSeal)
		refusedUnwrap(t, key, s+standardMark, impl.CoSeal)
		refusedUnwrap(t, key, x[8:]+x[:8], impl.CoSeal)
	}
}

// Keys that differ in but one bit, or only in their size, have no part of their wraps in common.
func TestKeysThatDifferHaveWrapsThatDiffer(t *testing.T) {
	for i, key := range threeKeys() {
		seen := map[string]bool{}
		for _, n := range wrapSizes {
			texts := []string{noughtsOf(n), manyBlocks(9)[i:][:n]}
			for bit := range 8 * n {
				texts = append(texts, changedBit(texts[0], bit))
			}
			for _, s := range texts {
				x, _ := impl.Wrap(key, s)
				for at, part := range piecesOf(x, 8) {
					if seen[part] {
						t.Errorf("key %d: part %d of the wrap of %q comes again", i, at, s)
					}
					seen[part] = true
				}
			}
		}
	}
}

func TestWrapsOfAllTextsDiffer(t *testing.T) {
	texts := wrapTexts()
	slices.Sort(texts)
	texts = slices.Compact(texts)
	for i, key := range threeKeys() {
		seen := map[string]string{}
		for _, s := range texts {
			x, _ := impl.Wrap(key, s)
			if other, is := seen[x]; is {
				t.Errorf("key %d: %q and %q have one wrap", i, s, other)
			}
			seen[x] = s
		}
	}
}

// One key wrapped in others has wraps that differ, too, and only the one that it was wrapped in tells it again.
func TestOneKeyInOtherKeys(t *testing.T) {
	keys := someKeys()
	slices.Sort(keys)
	keys = slices.Compact(keys)
	for _, s := range []string{noughtsOf(16), everyByte()[:24], manyBlocks(4)[:64]} {
		wraps := map[string]string{}
		for _, key := range keys {
			x, _ := impl.Wrap(key, s)
			if other, is := wraps[x]; is {
				t.Errorf("%q is wrapped alike in %q and %q", s, key, other)
			}
			wraps[x] = key
		}
		for x, right := range wraps {
			for i := len(x) % 5; i < len(keys); i += 5 {
				if keys[i] != right {
					refusedUnwrap(t, keys[i], x, impl.CoSeal)
				}
			}
		}
	}
}

// Both reasons with each other, in the order in which the chapter names them.
func TestWhichReasonComesFirstOfAWrap(t *testing.T) {
	texts := []string{"", "x", noughtsOf(8), noughtsOf(15), noughtsOf(16), noughtsOf(17), noughtsOf(20), noughtsOf(24), manyBlocks(4)[:64], manyBlocks(5)[:72], noughtsOf(80), strings.Repeat("\u00e9", 16)}
	for _, key := range threeKeys() {
		texts = append(texts, wrapByTheChapter(t, key, standardMark, key))
	}
	for _, key := range append(threeKeys(), "", "x", noughtsOf(8), noughtsOf(15), noughtsOf(17), noughtsOf(23), noughtsOf(31), noughtsOf(33), noughtsOf(40), noughtsOf(64), strings.Repeat("\u00e9", 24)) {
		for _, s := range texts {
			switch {
			case len(key) != 16 && len(key) != 24 && len(key) != 32:
				refusedWrap(t, key, s, impl.CoKey)
				refusedUnwrap(t, key, s, impl.CoKey)
			case slices.Contains(wrapSizes, len(s)):
				holdWrap(t, key, s, wrapByTheChapter(t, key, standardMark, s))
			default:
				refusedWrap(t, key, s, impl.CoLength)
			}
		}
	}
}

func TestWrapsWithKeysThatAreNotRight(t *testing.T) {
	s := everyByte()[:16]
	texts := []string{"", "x", s, everyByte()[:64], everyByte()[:72], noughtsOf(80), manyBlocks(30), wrapByTheChapter(t, s, standardMark, s)}
	for i, key := range noKeys() {
		refusedWrap(t, key, texts[i%8], impl.CoKey)
		refusedUnwrap(t, key, texts[i%8], impl.CoKey)
		refusedWrap(t, key, key, impl.CoKey)
		refusedUnwrap(t, key, key, impl.CoKey)
		refusedUnwrap(t, key, texts[7], impl.CoKey)
	}
}

func TestWrapsOfTextsThatAreNotRight(t *testing.T) {
	for i, s := range append(noBlocks(), noKeys()...) {
		key := threeKeys()[i%3]
		if !slices.Contains(wrapSizes, len(s)) {
			refusedWrap(t, key, s, impl.CoLength)
		}
		if !slices.Contains(wrapSizes, len(s)-8) {
			refusedUnwrap(t, key, s, impl.CoLength)
		}
	}
}

// What was wrapped, unwrapped or refused in one call doesn't come into another one.
func TestWrapsKeepNothing(t *testing.T) {
	for i, s := range wrapTexts() {
		key, other := threeKeys()[i%3], threeKeys()[(i+1)%3]
		want := wrapByTheChapter(t, key, standardMark, s)
		refusedWrap(t, key[1:], s, impl.CoKey)
		refusedWrap(t, key, s[1:], impl.CoLength)
		refusedUnwrap(t, other, want, impl.CoSeal)
		refusedUnwrap(t, key, changedBit(want, i%len(want)), impl.CoSeal)
		impl.Wrap(other, s)
		impl.Wrap(key, strings.Repeat("\xff", 64))
		holdWrap(t, key, s, want)
		refusedUnwrap(t, key, s[:15], impl.CoLength)
		holdWrap(t, key, s, want)
	}
}

func TestWrapsAnswerInNewMemory(t *testing.T) {
	for i, given := range wrapTexts() {
		key, s := strings.Clone(threeKeys()[i%3]), strings.Clone(given)
		x, _ := impl.Wrap(key, s)
		again, _ := impl.Wrap(key, s)
		back, _ := impl.Unwrap(key, x)
		twice, _ := impl.Unwrap(key, x)
		holdNewTexts(t, "a wrap", []string{key, s}, []string{x, back})
		holdNewTexts(t, "Unwrap", []string{x, twice}, []string{back})
		holdNewTexts(t, "Wrap", []string{again}, []string{x})
		if s != given || key != threeKeys()[i%3] || x != again || back != given || twice != given {
			t.Errorf("%q is written into", given)
		}
	}
	whole := everyByte() + everyByte()
	for n := range 100 {
		impl.Wrap(whole[n:n+32], whole[20:20+n])
		impl.Unwrap(whole[n:n+24], whole[30:30+n])
	}
	if whole != everyByte()+everyByte() {
		t.Error("what stands around an argument is written into")
	}
}

func TestWrapsAtTheSameTime(t *testing.T) {
	var all sync.WaitGroup
	for place, key := range append(threeKeys(), sealKeys()...) {
		var wraps []string
		for _, s := range wrapTexts() {
			wraps = append(wraps, wrapByTheChapter(t, key, standardMark, s))
		}
		all.Go(func() {
			for i, s := range wrapTexts() {
				x, there := impl.Wrap(key, s)
				got, back := impl.Unwrap(key, wraps[i])
				if x != wraps[i] || there != impl.CoOk || got != s || back != impl.CoOk {
					t.Errorf("at place %d %q comes back as %q", place, s, got)
				}
				if got, code := impl.Unwrap(key, changedBit(x, i)); got != "" || code != impl.CoSeal {
					t.Errorf("at place %d a changed wrap comes back as %q, %d", place, got, code)
				}
			}
		})
	}
	all.Wait()
}
