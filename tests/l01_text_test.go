package tests

import (
	"encoding/hex"
	"fmt"
	"math"
	"math/bits"
	"slices"
	"strings"
	"testing"
	"unsafe"

	"loop.example/g00835/impl"
)

// everyByte has each of the 256 bytes once, in order.
func everyByte() string {
	all := make([]byte, 256)
	for i := range all {
		all[i] = byte(i)
	}
	return string(all)
}

// textsUpTo tells all texts of at most n of the signs.
func textsUpTo(n int, signs string) []string {
	texts := []string{""}
	for from := 0; n > 0; n-- {
		to := len(texts)
		for _, t := range texts[from:to] {
			for i := range len(signs) {
				texts = append(texts, t+signs[i:i+1])
			}
		}
		from = to
	}
	return texts
}

// liesIn tells whether the bytes of part are in the memory of whole.
func liesIn(part, whole string) bool {
	if part == "" || whole == "" {
		return false
	}
	p := uintptr(unsafe.Pointer(unsafe.StringData(part)))
	w := uintptr(unsafe.Pointer(unsafe.StringData(whole)))
	return w <= p && p < w+uintptr(len(whole))
}

func TestDecText(t *testing.T) {
	for n, want := range map[int]string{
		0: "0", 7: "7", 10: "10", 120: "120", -1: "-1", -120: "-120",
		999999999: "999999999", 1000000000: "1000000000",
		math.MaxInt: "9223372036854775807", math.MinInt: "-9223372036854775808",
	} {
		if got := impl.DecText(n); got != want {
			t.Errorf("DecText(%d) = %q, not %q", n, got, want)
		}
	}
	for n := -1100; n <= 1100; n++ {
		if got := impl.DecText(n); got != fmt.Sprint(n) {
			t.Errorf("DecText(%d) = %q", n, got)
		}
	}
}

func TestReadDecTakesBackDecText(t *testing.T) {
	numbers := []int{999999999, 999999998, 123456789, 100000000, 99999999}
	for n := range 11000 {
		numbers = append(numbers, n)
	}
	for n := 1; n < 999999999; n = n*3 + 1 {
		numbers = append(numbers, n)
	}
	for _, n := range numbers {
		if got := impl.ReadDec(impl.DecText(n)); got != n {
			t.Errorf("%d came back as %d", n, got)
		}
	}
}

func TestReadDecRefuses(t *testing.T) {
	refused := []string{
		"", "-", "+", "-0", "+0", "-1", "+1", "-999999999", "00", "01", "007", "0000000001",
		" 1", "1 ", "1\n", "\t1", "1 2", "1_0", "1,0", "1.0", "1e3", "0x1", "0b1", "1a", "a1", "a",
		"1/", "1:", "/", ":", "1\x00", "\x00", "\xff", "\u0661", "\uff11",
		"1000000000", "1000000001", "9999999999", "2147483648", "4294967297",
		"9223372036854775807", "9223372036854775808", "18446744073709551616", "18446744073709551617",
		"99999999999999999999", "000000000000000000001", "340282366920938463463374607431768211457",
		"1" + strings.Repeat("0", 64), strings.Repeat("0", 1000), strings.Repeat("9", 1000),
	}
	for _, s := range refused {
		if got := impl.ReadDec(s); got != -1 {
			t.Errorf("ReadDec(%q) = %d", s, got)
		}
	}
}

func TestReadDecOfAllShortTexts(t *testing.T) {
	want := map[string]int{}
	for n := range 10000 {
		want[fmt.Sprint(n)] = n
	}
	for _, s := range textsUpTo(4, "0123456789-+ _") {
		n, ok := want[s]
		if !ok {
			n = -1
		}
		if got := impl.ReadDec(s); got != n {
			t.Errorf("ReadDec(%q) = %d, not %d", s, got, n)
		}
	}
}

func TestHex(t *testing.T) {
	for s, want := range map[string]string{
		"": "", "\x00": "00", "\x0f": "0f", "\xf0": "f0", "\xab": "ab", "\xffA\n": "ff410a", "\u00e9": "c3a9",
	} {
		if got := impl.Hex(s); got != want {
			t.Errorf("Hex(%q) = %q, not %q", s, got, want)
		}
	}
	if got := impl.Hex(everyByte()); got != hex.EncodeToString([]byte(everyByte())) {
		t.Errorf("Hex of all bytes = %q", got)
	}
}

func TestUnhexTakesBackHex(t *testing.T) {
	long := strings.Repeat(everyByte(), 17)
	for _, s := range append(textsUpTo(3, "\x00\x0f\xf0\xff\x80a\n"), everyByte(), long) {
		if got, ok := impl.Unhex(impl.Hex(s)); !ok || got != s {
			t.Errorf("%q came back as %q, %v", s, got, ok)
		}
	}
}

// Of all pairs of bytes just those are taken that Hex makes of a byte.
func TestUnhexOfAllPairs(t *testing.T) {
	want := map[string]string{}
	for b := range 256 {
		want[fmt.Sprintf("%02x", b)] = string([]byte{byte(b)})
	}
	for a := range 256 {
		for b := range 256 {
			s := string([]byte{byte(a), byte(b)})
			text, ok := want[s]
			if got, gotOk := impl.Unhex(s); got != text || gotOk != ok {
				t.Errorf("Unhex(%q) = %q, %v", s, got, gotOk)
			}
		}
	}
}

func TestUnhexRefuses(t *testing.T) {
	refused := []string{
		"0", "f", "000", "00f", "00000", "AB", "aB", "00FF", "0g", "g0", "00zz", "zz00", "-1", "0x00", "x0",
		"00 ", " 00", "00 00", "00\n", "00\x00", "\x00\x00", "\xff\xff", "\u00e9", "\uff10", "00g", "0011223",
		strings.Repeat("0", 999), strings.Repeat("0", 999) + "G",
	}
	for _, s := range refused {
		if got, ok := impl.Unhex(s); ok || got != "" {
			t.Errorf("Unhex(%q) = %q, %v", s, got, ok)
		}
	}
}

func TestXor(t *testing.T) {
	for _, c := range []struct{ a, b, want string }{
		{"", "", ""}, {"", "abc", ""}, {"abc", "", ""}, {"a", "a", "\x00"}, {"a", "A", " "},
		{"\x0f\xff", "\xf0\x0fx", "\xff\xf0"}, {"\xf0\x0fx", "\x0f\xff", "\xff\xf0"}, {"\x80\x01", "\x00\x00", "\x80\x01"},
	} {
		if got := impl.Xor(c.a, c.b); got != c.want {
			t.Errorf("Xor(%q, %q) = %q, not %q", c.a, c.b, got, c.want)
		}
	}
	for a := range 256 {
		for b := range 256 {
			got := impl.Xor(string([]byte{byte(a)}), string([]byte{byte(b)}))
			if got != string([]byte{byte(a ^ b)}) {
				t.Errorf("Xor of %d and %d = %q", a, b, got)
			}
		}
	}
}

func TestXorTwice(t *testing.T) {
	texts := append(textsUpTo(3, "\x00\xffa\x80"), everyByte())
	for _, a := range texts {
		for _, b := range texts {
			n := min(len(a), len(b))
			once := impl.Xor(a, b)
			if len(once) != n || impl.Xor(b, a) != once {
				t.Errorf("Xor(%q, %q) = %q, Xor(%q, %q) = %q", a, b, once, b, a, impl.Xor(b, a))
			}
			if impl.Xor(once, b) != a[:n] || impl.Xor(once, a) != b[:n] {
				t.Errorf("%q turned twice by %q = %q", a, b, impl.Xor(once, b))
			}
		}
	}
}

func TestOnes(t *testing.T) {
	for s, want := range map[string]int{
		"": 0, "\x00": 0, "\x00\x00": 0, "\x01": 1, "\x80": 1, "\xff": 8, "\x00\xff\x01": 9, "\xff\xff": 16, "a": 3,
		strings.Repeat("\xff", 1000): 8000,
	} {
		if got := impl.Ones(s); got != want {
			t.Errorf("Ones(%q) = %d, not %d", s, got, want)
		}
	}
	for b := range 256 {
		if got := impl.Ones(string([]byte{byte(b)})); got != bits.OnesCount(uint(b)) {
			t.Errorf("Ones of the byte %d = %d", b, got)
		}
	}
}

func TestLines(t *testing.T) {
	for s, want := range map[string][]string{
		"": nil, "a": {"a"}, "\n": {"", ""}, "\n\n": {"", "", ""}, "a\n": {"a", ""}, "\na": {"", "a"},
		"a\n\nb\n": {"a", "", "b", ""}, "a b\r\nc": {"a b\r", "c"}, "\r": {"\r"}, " \t\n\x00": {" \t", "\x00"},
		"a\u2028b\u0085c\vd\fe": {"a\u2028b\u0085c\vd\fe"}, "\xff\n\xfe": {"\xff", "\xfe"},
	} {
		if got := impl.Lines(s); !slices.Equal(got, want) {
			t.Errorf("Lines(%q) = %q, not %q", s, got, want)
		}
	}
}

func TestLinesJoined(t *testing.T) {
	for _, s := range append(textsUpTo(5, "a\n\r "), everyByte()) {
		got := impl.Lines(s)
		parts := strings.Count(s, "\n") + 1
		if s == "" {
			parts = 0
		}
		if len(got) != parts || strings.Join(got, "\n") != s {
			t.Errorf("Lines(%q) = %q", s, got)
		}
	}
}

func TestWords(t *testing.T) {
	for s, want := range map[string][]string{
		"": nil, " ": nil, "\t": nil, " \t \t ": nil, "a": {"a"}, "ab": {"ab"}, " a": {"a"}, "a ": {"a"},
		" a\tbc  d": {"a", "bc", "d"}, "\t\ta \t b\t": {"a", "b"}, "a b": {"a", "b"}, "a a": {"a", "a"},
		"a\nb c": {"a\nb", "c"}, "\n": {"\n"}, "\r \v \f": {"\r", "\v", "\f"}, "\x00 \xff": {"\x00", "\xff"},
		"a\u00a0b\u0085c\u3000d": {"a\u00a0b\u0085c\u3000d"}, "\x85\xa0": {"\x85\xa0"},
	} {
		if got := impl.Words(s); !slices.Equal(got, want) {
			t.Errorf("Words(%q) = %q, not %q", s, got, want)
		}
	}
	long := strings.Repeat("x", 100000)
	if got := impl.Words(" " + long + "\t" + long); !slices.Equal(got, []string{long, long}) {
		t.Error("long words are cut")
	}
}

func TestWordsOfAllShortTexts(t *testing.T) {
	gap := func(r rune) bool { return r == ' ' || r == '\t' }
	for _, s := range append(textsUpTo(6, " \ta\n"), everyByte()) {
		if got := impl.Words(s); !slices.Equal(got, strings.FieldsFunc(s, gap)) {
			t.Errorf("Words(%q) = %q", s, got)
		}
	}
}

func TestTextListsAreNew(t *testing.T) {
	for name, cut := range map[string]func(string) []string{"Lines": impl.Lines, "Words": impl.Words} {
		for _, s := range []string{"one\ntwo", "one two", "one"} {
			whole := strings.Clone(s)
			first, want := cut(whole), cut(s)
			for i := range first {
				if liesIn(first[i], whole) {
					t.Errorf("%s(%q) lies in its argument", name, s)
				}
				first[i] = "changed"
			}
			if whole != s || !slices.Equal(cut(whole), want) {
				t.Errorf("%s(%q) hangs on an earlier answer", name, s)
			}
		}
	}
}

// Every function of the chapter answers at texts of any bytes, long ones too.
func TestTextsAnswerAtAnything(t *testing.T) {
	texts := append(textsUpTo(2, everyByte()[:40]+"\x7f\x80\xc3\xff"), everyByte(), strings.Repeat(everyByte(), 300))
	for _, s := range texts {
		was := strings.Clone(s)
		impl.ReadDec(s)
		impl.Unhex(s)
		impl.Xor(s, was)
		impl.Lines(s)
		impl.Words(s)
		if len(impl.Hex(s)) != 2*len(s) || impl.Ones(s) < 0 || s != was {
			t.Errorf("at %q", was)
		}
	}
}
