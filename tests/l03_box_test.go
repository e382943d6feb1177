package tests

import (
	"math"
	"strings"
	"testing"

	"loop.example/g00835/impl"
)

// affineByBits is Affine, each bit reckoned for itself.
func affineByBits(b int) int {
	told := 0
	for k := range 8 {
		bit := 0x63 >> k & 1
		for _, place := range []int{k, (k + 4) % 8, (k + 5) % 8, (k + 6) % 8, (k + 7) % 8} {
			bit ^= b >> place & 1
		}
		told |= bit << k
	}
	return told
}

// subBySearch is Sub, with an inverse that is looked for among all bytes.
func subBySearch(b int) int {
	for inverse := range 256 {
		if productByDivision(b, inverse) == 1 {
			return affineByBits(inverse)
		}
	}
	return affineByBits(0)
}

// takenBack tells of each byte the one at which tell answers it; it fails where two bytes have one answer.
func takenBack(t *testing.T, tell func(int) int) [256]int {
	t.Helper()
	var back [256]int
	seen := map[int]bool{}
	for b := range 256 {
		to := tell(b)
		if seen[to] {
			t.Fatalf("%d is told twice", to)
		}
		seen[to] = true
		back[to] = b
	}
	return back
}

// holdAtAllBytes holds an answer against what is wanted, at all bytes and at other numbers given for them.
func holdAtAllBytes(t *testing.T, name string, tell func(int) int, want func(int) int) {
	t.Helper()
	for b := range 256 {
		for _, n := range namesOf(b) {
			if got := tell(n); got != want(b) {
				t.Errorf("%s(%d) = %d, not %d", name, n, got, want(b))
			}
		}
	}
}

func TestAffine(t *testing.T) {
	for b, want := range map[int]int{
		0: 0x63, 1: 0x7c, 2: 0x5d, 4: 0x1f, 8: 0x9b, 16: 0x92, 32: 0x80, 64: 0xa4, 128: 0xec, 255: 0x9c,
		256: 0x63, 257: 0x7c, -1: 0x9c, -256: 0x63, math.MaxInt: 0x9c, math.MinInt: 0x63,
	} {
		if got := impl.Affine(b); got != want {
			t.Errorf("Affine(%d) = %#x, not %#x", b, got, want)
		}
	}
	holdAtAllBytes(t, "Affine", impl.Affine, affineByBits)
}

func TestUnaffine(t *testing.T) {
	for b, want := range map[int]int{
		0x63: 0, 0x7c: 1, 0: 5, 0xec: 128, 0x9c: 255, 0x163: 0, 256: 5, -256: 5, 0x63 - 256: 0, math.MinInt: 5,
	} {
		if got := impl.Unaffine(b); got != want {
			t.Errorf("Unaffine(%d) = %#x, not %#x", b, got, want)
		}
	}
	back := takenBack(t, affineByBits)
	holdAtAllBytes(t, "Unaffine", impl.Unaffine, func(b int) int { return back[b] })
}

func TestSub(t *testing.T) {
	for b, want := range map[int]int{
		0: 0x63, 1: 0x7c, 2: 0x77, 16: 0xca, 0x52: 0, 0x53: 0xed, 0x7d: 0xff, 0x9a: 0xb8, 128: 0xcd, 254: 0xbb, 255: 0x16,
		256: 0x63, 257: 0x7c, -1: 0x16, -256: 0x63, math.MaxInt: 0x16, math.MinInt: 0x63,
	} {
		if got := impl.Sub(b); got != want {
			t.Errorf("Sub(%d) = %#x, not %#x", b, got, want)
		}
	}
	holdAtAllBytes(t, "Sub", impl.Sub, subBySearch)
}

func TestUnsub(t *testing.T) {
	for b, want := range map[int]int{
		0x63: 0, 0x7c: 1, 0: 0x52, 1: 9, 0xed: 0x53, 0xff: 0x7d, 0x16: 255, 0xcd: 128, 0x163: 0, 256: 0x52,
		-256: 0x52, -1: 0x7d, math.MaxInt: 0x7d, math.MinInt: 0x52,
	} {
		if got := impl.Unsub(b); got != want {
			t.Errorf("Unsub(%d) = %#x, not %#x", b, got, want)
		}
	}
	back := takenBack(t, subBySearch)
	holdAtAllBytes(t, "Unsub", impl.Unsub, func(b int) int { return back[b] })
}

func TestSubIsAffineOfInverse(t *testing.T) {
	for b := range 256 {
		if got := impl.Sub(b); got != impl.Affine(impl.Inverse(b)) {
			t.Errorf("Sub(%d) = %d, Affine of its Inverse = %d", b, got, impl.Affine(impl.Inverse(b)))
		}
		if got := impl.Unsub(b); got != impl.Inverse(impl.Unaffine(b)) {
			t.Errorf("Unsub(%d) = %d, Inverse of its Unaffine = %d", b, got, impl.Inverse(impl.Unaffine(b)))
		}
	}
}

func TestAByteComesBackFromItsBox(t *testing.T) {
	for b := range 256 {
		if there, back := impl.Unsub(impl.Sub(b)), impl.Sub(impl.Unsub(b)); there != b || back != b {
			t.Errorf("%d came back from its box as %d, and the other way as %d", b, there, back)
		}
		if there, back := impl.Unaffine(impl.Affine(b)), impl.Affine(impl.Unaffine(b)); there != b || back != b {
			t.Errorf("%d came back as %d, and the other way as %d", b, there, back)
		}
		for _, n := range namesOf(b) {
			if impl.Unsub(impl.Sub(n)) != b || impl.Sub(impl.Unsub(n)) != b {
				t.Errorf("%d, given for %d, didn't come back as that", n, b)
			}
		}
	}
	for name, tell := range map[string]func(int) int{"Sub": impl.Sub, "Unsub": impl.Unsub, "Affine": impl.Affine, "Unaffine": impl.Unaffine} {
		t.Run(name, func(t *testing.T) { takenBack(t, tell) })
	}
}

func TestNoByteStaysInItsBox(t *testing.T) {
	for b := range 256 {
		if impl.Sub(b) == b || impl.Unsub(b) == b {
			t.Errorf("%d stays in its box: %d, %d", b, impl.Sub(b), impl.Unsub(b))
		}
	}
}

// boxTexts has texts of no byte, of few, of all, and of many; some of their bytes make signs of more bytes than one, others none.
func boxTexts() []string {
	return append(textsUpTo(3, "\x00\x01\x52\x63\x80\xc3\xff\n"),
		everyByte(), strings.Repeat(everyByte(), 40), strings.Repeat("\x00", 1001), "\u00e9\u2028\U0001f512", "\xc3\x28\xe2\x82")
}

func TestSubText(t *testing.T) {
	for s, want := range map[string]string{
		"": "", "\x00": "c", "\x00\x00": "cc", "\x00\x53\xff": "\x63\xed\x16", "\u00e9": "\x2e\xd3", "\xff\x00": "\x16\x63", "\n": "\x67",
	} {
		if got := impl.SubText(s); got != want {
			t.Errorf("SubText(%q) = %q, not %q", s, got, want)
		}
	}
	holdAtAllTexts(t, "SubText", impl.SubText, impl.Sub)
}

func TestUnsubText(t *testing.T) {
	for s, want := range map[string]string{
		"": "", "c": "\x00", "\x00": "\x52", "\x63\xed\x16": "\x00\x53\xff", "\u00e9": "\x33\xb7", "\x16\x63": "\xff\x00",
	} {
		if got := impl.UnsubText(s); got != want {
			t.Errorf("UnsubText(%q) = %q, not %q", s, got, want)
		}
	}
	holdAtAllTexts(t, "UnsubText", impl.UnsubText, impl.Unsub)
}

// holdAtAllTexts holds what is told of a text against what is told of each of its bytes.
func holdAtAllTexts(t *testing.T, name string, tell func(string) string, tellByte func(int) int) {
	t.Helper()
	for _, s := range boxTexts() {
		want := make([]byte, len(s))
		for i := range want {
			want[i] = byte(tellByte(int(s[i])))
		}
		if got := tell(s); got != string(want) {
			t.Errorf("%s of %d bytes %.20q = %.20q, not %.20q", name, len(s), s, got, want)
		}
	}
}

func TestATextComesBackFromItsBox(t *testing.T) {
	for _, s := range boxTexts() {
		if got := impl.UnsubText(impl.SubText(s)); got != s {
			t.Errorf("%d bytes %.20q came back as %.20q", len(s), s, got)
		}
		if got := impl.SubText(impl.UnsubText(s)); got != s {
			t.Errorf("%d bytes %.20q came back the other way as %.20q", len(s), s, got)
		}
	}
}

func TestBoxTextsAreNew(t *testing.T) {
	for name, tell := range map[string]func(string) string{"SubText": impl.SubText, "UnsubText": impl.UnsubText} {
		for _, s := range boxTexts() {
			was := strings.Clone(s)
			first := tell(s)
			if liesIn(first, s) {
				t.Errorf("%s(%.20q) lies in its argument", name, s)
			}
			if again := tell(s); again != first || liesIn(again, first) && len(again) > 1 || s != was { // texts of one byte may be shared by the language
				t.Errorf("%s(%.20q) hangs on an earlier answer, or wrote into its argument", name, was)
			}
		}
	}
}

// Whatever number is given, the answer is a byte, and it is the same again, after others too.
func TestBoxAnswersAtAnything(t *testing.T) {
	numbers := []int{math.MinInt, math.MinInt + 1, -1 << 32, -257, -256, -255, -128, -1, 0, 1, 127, 128, 255, 256, 257, 1 << 31, 1 << 32, math.MaxInt - 1, math.MaxInt}
	for name, tell := range map[string]func(int) int{"Affine": impl.Affine, "Unaffine": impl.Unaffine, "Sub": impl.Sub, "Unsub": impl.Unsub} {
		var first []int
		for _, n := range numbers {
			first = append(first, tell(n))
		}
		for i, n := range numbers {
			got := tell(n)
			if got < 0 || got > 255 || got != first[i] || got != tell(n&255) {
				t.Errorf("%s(%d) = %d, at first %d, of its lowest bits %d", name, n, got, first[i], tell(n&255))
			}
		}
	}
}
