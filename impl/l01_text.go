package impl

import (
	"iter"
	"math/bits"
	"strconv"
	"strings"
)

const (
	maxDec    = 999999999
	hexDigits = "0123456789abcdef"
	newline   = "\n"
)

func DecText(n int) string { return strconv.Itoa(n) }

func ReadDec(s string) int {
	n, err := strconv.Atoi(s)
	// Atoi also takes a plus sign, minus nought and noughts ahead: no DecText has them.
	if err != nil || n < 0 || n > maxDec || DecText(n) != s {
		return -1
	}
	return n
}

func Hex(s string) string {
	digits := make([]byte, 0, 2*len(s))
	for i := range len(s) {
		digits = append(digits, hexDigits[s[i]>>4], hexDigits[s[i]&15])
	}
	return string(digits)
}

func Unhex(s string) (string, bool) {
	if len(s)%2 != 0 {
		return "", false
	}
	text := make([]byte, len(s)/2)
	for i := range text {
		high := strings.IndexByte(hexDigits, s[2*i])
		low := strings.IndexByte(hexDigits, s[2*i+1])
		if high < 0 || low < 0 {
			return "", false
		}
		text[i] = byte(high<<4 | low)
	}
	return string(text), true
}

func Xor(a string, b string) string {
	mixed := make([]byte, min(len(a), len(b)))
	for i := range mixed {
		mixed[i] = a[i] ^ b[i]
	}
	return string(mixed)
}

func Ones(s string) int {
	n := 0
	for i := range len(s) {
		n += bits.OnesCount8(s[i])
	}
	return n
}

func Lines(s string) []string {
	if s == "" {
		return nil
	}
	lines := strings.Split(s, newline)
	for i, line := range lines {
		lines[i] = strings.Clone(line) // an answer shares no memory with an argument
	}
	return lines
}

func Words(s string) []string {
	var words []string
	for word := range wordsOf(s) {
		words = append(words, strings.Clone(word)) // as in Lines
	}
	return words
}

// wordsOf is apart from Words so that who needs only the first words can stop there.
func wordsOf(s string) iter.Seq[string] {
	return func(yield func(string) bool) {
		start := 0
	scan:
		for at := range len(s) + 1 { // the end of s ends a word as a gap does
			switch {
			case at < len(s) && !isGap(s[at]):
				continue scan
			case start < at && !yield(s[start:at]):
				break scan
			}
			start = at + 1
		}
	}
}

func isGap(b byte) bool { return b == ' ' || b == '\t' }
