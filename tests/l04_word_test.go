package tests

import (
	"encoding/binary"
	"math"
	"strings"
	"testing"

	"loop.example/g00835/impl"
)

const wordMask = 1<<32 - 1

// someWords has words of one bit, of all but one, of one byte at each place, of all ones up to each place, and many mixed ones.
func someWords() []int {
	words := []int{0, 1, 19088743, 21495808, 0x80000000, 0x7fffffff, 0xfffffffe, wordMask, 0x01020408, 0xdeadbeef}
	for k := range 32 {
		words = append(words, 1<<k, wordMask^1<<k, 1<<k-1)
	}
	for b := 0; b < 256; b += 3 {
		words = append(words, b, b<<8, b<<16, b<<24)
	}
	for w, i := 1, 0; i < 300; i++ {
		w = (w*1664525 + 1013904223) & wordMask
		words = append(words, w)
	}
	return words
}

// wordNames tells numbers whose lowest 32 bits are the word w.
func wordNames(w int) []int {
	return []int{
		w, w + 1<<32, w + 1<<33, w - 1<<32, w - 1<<33, w + 0x12345678<<32, w + 1<<62, w - 1<<62,
		w + math.MaxInt - wordMask, w + math.MinInt,
	}
}

// extremes has the numbers at which a sum or a difference of small numbers runs over, and those around each limit.
func extremes() []int {
	return []int{
		math.MinInt, math.MinInt + 1, math.MinInt + 4, -1 << 33, -1<<32 - 1, -1 << 32, -1<<32 + 1, -1 << 31, -257, -256, -255, -33, -32,
		-31, -5, -4, -3, -2, -1, 0, 1, 2, 3, 4, 5, 30, 31, 32, 33, 63, 64, 255, 256, 257, 1<<31 - 1, 1 << 31, 1<<32 - 1, 1 << 32, 1<<32 + 1,
		1<<32 + 31, 1 << 62, math.MaxInt - 4, math.MaxInt - 3, math.MaxInt - 2, math.MaxInt - 1, math.MaxInt,
	}
}

// turnedBitByBit is the word turned up by one place, k times.
func turnedBitByBit(w, k int) int {
	for range k {
		w = w<<1&wordMask | w>>31
	}
	return w
}

func TestPutWord(t *testing.T) {
	for n, want := range map[int]string{
		0: "\x00\x00\x00\x00", 1: "\x00\x00\x00\x01", 256: "\x00\x00\x01\x00", 65536: "\x00\x01\x00\x00", 16777216: "\x01\x00\x00\x00",
		19088743: "\x01\x23\x45\x67", 0x80000000: "\x80\x00\x00\x00", 0xe9c3a9ff: "\xe9\xc3\xa9\xff", wordMask: "\xff\xff\xff\xff",
		wordMask + 1: "\x00\x00\x00\x00", wordMask + 2: "\x00\x00\x00\x01", -1: "\xff\xff\xff\xff", -2: "\xff\xff\xff\xfe",
		-1 << 32: "\x00\x00\x00\x00", math.MaxInt: "\xff\xff\xff\xff", math.MinInt: "\x00\x00\x00\x00",
	} {
		if got := impl.PutWord(n); got != want {
			t.Errorf("PutWord(%d) = %q, not %q", n, got, want)
		}
	}
	for _, w := range someWords() {
		want := string(binary.BigEndian.AppendUint32(nil, uint32(w)))
		for _, n := range wordNames(w) {
			if got := impl.PutWord(n); got != want {
				t.Errorf("PutWord(%d) = %q, not %q", n, got, want)
			}
		}
	}
}

func TestGetWord(t *testing.T) {
	for _, c := range []struct {
		s        string
		at, want int
	}{
		{"\x01\x23\x45\x67", 0, 19088743}, {"x\x01\x23\x45\x67", 1, 19088743}, {"\x01\x23\x45\x67x", 0, 19088743},
		{"xy\x01\x23\x45\x67z", 2, 19088743}, {"\x00\x00\x00\x00", 0, 0}, {"\xff\xff\xff\xff", 0, wordMask},
		{"\x80\x00\x00\x00", 0, 0x80000000}, {"\x00\x00\x00\x80", 0, 128}, {"abcd", 0, 0x61626364}, {"\u00e9\u00e9", 0, 0xc3a9c3a9},
	} {
		if got := impl.GetWord(c.s, c.at); got != c.want {
			t.Errorf("GetWord(%q, %d) = %d, not %d", c.s, c.at, got, c.want)
		}
	}
	for _, s := range []string{everyByte(), strings.Repeat(everyByte(), 40)} {
		for at := 0; at+4 <= len(s); at++ {
			if got := impl.GetWord(s, at); got != int(binary.BigEndian.Uint32([]byte(s[at:at+4]))) {
				t.Errorf("GetWord of %d bytes at %d = %d", len(s), at, got)
			}
		}
	}
}

// A text of less than four bytes has no word, and each text none at a place behind its last four bytes.
func TestGetWordRefuses(t *testing.T) {
	for n := range 13 {
		whole := strings.Repeat("\xff", 40)
		s := whole[:n] // bytes that stand in memory behind a text aren't its own
		places := extremes()
		for at := -20; at <= 40; at++ {
			places = append(places, at)
		}
		for _, at := range places {
			want := -1
			if at >= 0 && at <= n-4 {
				want = wordMask
			}
			if got := impl.GetWord(s, at); got != want {
				t.Errorf("GetWord of %d bytes at %d = %d, not %d", n, at, got, want)
			}
		}
	}
}

func TestAWordComesBackFromItsBytes(t *testing.T) {
	for _, w := range someWords() {
		for _, n := range wordNames(w) {
			s := impl.PutWord(n)
			if got := impl.GetWord(s, 0); len(s) != 4 || got != w {
				t.Errorf("%d came back from its %d bytes as %d", n, len(s), got)
			}
			for _, ahead := range []string{"\xff", "ab", "\x00\x00\x00", "four", "eleven here"} {
				if got := impl.GetWord(ahead+s+"\xff", len(ahead)); got != w {
					t.Errorf("%d came back from place %d as %d", n, len(ahead), got)
				}
			}
		}
	}
}

func TestBytesComeBackFromTheirWord(t *testing.T) {
	s := everyByte() + "\x00\x00\x00\xff\xff\xff\xff\x00"
	for at := 0; at+4 <= len(s); at++ {
		if got := impl.PutWord(impl.GetWord(s, at)); got != s[at:at+4] {
			t.Errorf("the bytes from place %d on came back as %q", at, got)
		}
	}
}

func TestTurn(t *testing.T) {
	for _, c := range []struct{ n, k, want int }{
		{19088743, 8, 0x23456701}, {19088743, 4, 0x12345670}, {19088743, 24, 0x67012345}, {0x80000000, 1, 1}, {1, 31, 0x80000000},
		{0xc0000001, 1, 0x80000003}, {1, 1, 2}, {2, 31, 1}, {0, 17, 0}, {wordMask, 17, wordMask}, {-1, 4, wordMask}, {-1, 31, wordMask},
		{1<<32 + 1, 1, 2}, {1 << 32, 1, 0}, {1 << 31, 1, 1}, {math.MaxInt, 3, wordMask}, {math.MinInt, 1, 0}, {-1 << 31, 1, 1},
	} {
		if got := impl.Turn(c.n, c.k); got != c.want {
			t.Errorf("Turn(%d, %d) = %d, not %d", c.n, c.k, got, c.want)
		}
	}
	for _, w := range someWords() {
		for k := range 32 {
			want := turnedBitByBit(w, k)
			for _, n := range wordNames(w) {
				if got := impl.Turn(n, k); got != want {
					t.Errorf("Turn(%d, %d) = %d, not %d", n, k, got, want)
				}
			}
		}
	}
}

// A turn by nothing leaves a word as it is, and tells of another number the word that is meant.
func TestTurnByNothing(t *testing.T) {
	for n, want := range map[int]int{
		0: 0, 1: 1, 5: 5, 0x80000000: 0x80000000, wordMask: wordMask, 1 << 32: 0, 1<<32 + 5: 5, -1: wordMask, -5: wordMask - 4,
		-1 << 32: 0, math.MaxInt: wordMask, math.MinInt: 0,
	} {
		if got := impl.Turn(n, 0); got != want {
			t.Errorf("Turn(%d, 0) = %d, not %d", n, got, want)
		}
	}
	for _, w := range someWords() {
		for _, n := range wordNames(w) {
			if got := impl.Turn(n, 0); got != w {
				t.Errorf("Turn(%d, 0) = %d, not %d", n, got, w)
			}
		}
	}
}

func TestTurnRefuses(t *testing.T) {
	refused := extremes()
	for k := -300; k <= 300; k++ {
		refused = append(refused, k)
	}
	for _, k := range refused {
		if k >= 0 && k <= 31 {
			continue
		}
		for _, n := range []int{0, 1, 5, 0x80000000, wordMask, 1 << 32, -1, math.MaxInt, math.MinInt} {
			if got := impl.Turn(n, k); got != -1 {
				t.Errorf("Turn(%d, %d) = %d", n, k, got)
			}
		}
	}
}

func TestAWordComesBackFromWhereItWasTurned(t *testing.T) {
	for _, w := range someWords() {
		for k := range 32 {
			back := (32 - k) % 32
			for _, n := range wordNames(w) {
				if got := impl.Turn(impl.Turn(n, k), back); got != w {
					t.Errorf("%d, turned by %d and by %d = %d", n, k, back, got)
				}
			}
			for j := range 32 {
				if got := impl.Turn(impl.Turn(w, k), j); got != impl.Turn(w, (k+j)%32) {
					t.Fatalf("%d, turned by %d and by %d = %d", w, k, j, got)
				}
			}
		}
	}
}

// Eight places are one byte: the bytes of a turned word are those of the word, from another one on.
func TestTurnByBytes(t *testing.T) {
	for _, w := range someWords() {
		s := impl.PutWord(w)
		for i := range 4 {
			if got := impl.PutWord(impl.Turn(w, 8*i)); got != s[i:]+s[:i] {
				t.Errorf("the bytes of Turn(%d, %d) = %q, not %q", w, 8*i, got, s[i:]+s[:i])
			}
		}
	}
}

func TestSubWord(t *testing.T) {
	for n, want := range map[int]int{
		0: 0x63636363, 1: 0x6363637c, 1 << 24: 0x7c636363, 0x00010253: 0x637c77ed, wordMask: 0x16161616, 0x52525252: 0,
		0xcf4f3c09: 0x8a84eb01, 1 << 32: 0x63636363, 1<<32 + 1: 0x6363637c, -1: 0x16161616, math.MaxInt: 0x16161616, math.MinInt: 0x63636363,
	} {
		if got := impl.SubWord(n); got != want {
			t.Errorf("SubWord(%d) = %#x, not %#x", n, got, want)
		}
	}
	for _, w := range someWords() {
		want := impl.Sub(w>>24)<<24 | impl.Sub(w>>16)<<16 | impl.Sub(w>>8)<<8 | impl.Sub(w)
		for _, n := range wordNames(w) {
			if got := impl.SubWord(n); got != want || impl.PutWord(got) != impl.SubText(impl.PutWord(n)) {
				t.Errorf("SubWord(%d) = %#x, not %#x", n, got, want)
			}
		}
	}
}

// Each byte of a word is told by itself: all bytes, at each of the four places.
func TestSubWordOfSingleBytes(t *testing.T) {
	for b := range 256 {
		for _, shift := range []int{0, 8, 16, 24} {
			want := 0x63636363&^(255<<shift) | subBySearch(b)<<shift
			if got := impl.SubWord(b << shift); got != want {
				t.Errorf("SubWord(%#x) = %#x, not %#x", b<<shift, got, want)
			}
		}
	}
}

func TestRcon(t *testing.T) {
	for i, n := range []int{0, 1, 2, 4, 8, 16, 32, 64, 128, 27, 54, 108, 216, 171, 77} {
		if got := impl.Rcon(i); got != n<<24 {
			t.Errorf("Rcon(%d) = %#x, not %#x", i, got, n<<24)
		}
	}
	for i, power := 1, 1; i < 1000; i++ {
		if got := impl.Rcon(i); got != power<<24 {
			t.Errorf("Rcon(%d) = %#x, not %#x", i, got, power<<24)
		}
		power = productByDivision(power, 2)
	}
}

// The powers of 2 come again after 255 of them, so a great place is known by its rest.
func TestRconOfGreatNumbers(t *testing.T) {
	for _, i := range []int{256, 511, 65536, 1 << 31, 1<<32 - 1, 1 << 32, 1<<32 + 1, 1 << 62, math.MaxInt - 1, math.MaxInt} {
		if got := impl.Rcon(i); got != impl.Rcon((i-1)%255+1) || got&0xffffff != 0 || got == 0 {
			t.Errorf("Rcon(%d) = %#x", i, got)
		}
	}
}

func TestRconOfNoPlace(t *testing.T) {
	for _, i := range append(extremes(), -254, -255, -510) {
		if got := impl.Rcon(i); i < 1 && got != 0 {
			t.Errorf("Rcon(%d) = %#x", i, got)
		}
	}
}

func TestWordBytesAreNew(t *testing.T) {
	for _, w := range someWords() {
		first := impl.PutWord(w)
		if second := impl.PutWord(w); second != first || liesIn(second, first) {
			t.Errorf("PutWord(%d) hangs on an earlier answer", w)
		}
	}
	s := strings.Repeat(everyByte(), 2)
	was := strings.Clone(s)
	for at := range len(s) {
		if first := impl.GetWord(s, at); impl.GetWord(s, at) != first || s != was {
			t.Fatalf("GetWord at %d wrote into its text, or hangs on an earlier answer", at)
		}
	}
}

// Whatever numbers are given, the answer is a word (or the one that refuses), and it is the same again.
func TestWordsAnswerAtAnything(t *testing.T) {
	texts := append(textsUpTo(5, "\x00\xff"), everyByte())
	for _, a := range extremes() {
		for _, b := range extremes() {
			if got := impl.Turn(a, b); got < -1 || got > wordMask || got == -1 != (b < 0 || b > 31) || impl.Turn(a, b) != got {
				t.Errorf("Turn(%d, %d) = %d", a, b, got)
			}
		}
		for _, s := range texts {
			if got := impl.GetWord(s, a); got < -1 || got > wordMask || impl.GetWord(s, a) != got {
				t.Errorf("GetWord(%q, %d) = %d", s, a, got)
			}
		}
		for name, tell := range map[string]func(int) int{"SubWord": impl.SubWord, "Rcon": impl.Rcon} {
			if got := tell(a); got < 0 || got > wordMask || tell(a) != got {
				t.Errorf("%s(%d) = %d", name, a, got)
			}
		}
		if s := impl.PutWord(a); len(s) != 4 || impl.PutWord(a) != s {
			t.Errorf("PutWord(%d) = %q", a, s)
		}
	}
}
