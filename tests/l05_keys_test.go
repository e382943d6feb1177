package tests

import (
	"crypto/aes"
	"math"
	"slices"
	"strings"
	"testing"

	"loop.example/g00835/impl"
)

// someKeys has right keys of all three sizes: of noughts, of ones, of one bit, of ascending and of mixed bytes.
func someKeys() []string {
	var keys []string
	for _, n := range []int{16, 24, 32} {
		for _, sign := range []string{"\x00", "\xff", "\x80", "\xc3", "\n", "k"} {
			keys = append(keys, strings.Repeat(sign, n))
		}
		for at := range n {
			one := make([]byte, n)
			one[at] = 1 << (at % 8)
			keys = append(keys, string(one))
		}
		for at := 0; at+n <= 256; at += 29 {
			keys = append(keys, everyByte()[at:at+n])
		}
		for i, w := 0, n; i < 12; i++ {
			mixed := make([]byte, n)
			for at := range mixed {
				w = (w*1664525 + 1013904223) & wordMask
				mixed[at] = byte(w >> 21)
			}
			keys = append(keys, string(mixed))
		}
	}
	return keys
}

// noKeys has a text of each other size, right keys with a byte too few and too many, and long texts.
func noKeys() []string {
	var texts []string
	for n := range 300 {
		if n != 16 && n != 24 && n != 32 {
			texts = append(texts, strings.Repeat("\x2b", n), strings.Repeat(everyByte(), 2)[:n])
		}
	}
	for _, key := range someKeys() {
		texts = append(texts, key[1:], key[:len(key)-1], key+"\x00", "\n"+key)
	}
	hexOfKey := "2b7e151628aed2a6abf7158809cf4f3c2b7e151628aed2a6"
	return append(texts, hexOfKey, hexOfKey+hexOfKey, strings.Repeat("k", 1<<16), strings.Repeat("k", 1<<16+16))
}

func wordsOfHex(t *testing.T, s string) []int {
	t.Helper()
	var words []int
	for _, part := range strings.Fields(s) {
		text, ok := impl.Unhex(part)
		if !ok || len(text) != 4 {
			t.Fatalf("%q is no word", part)
		}
		words = append(words, impl.GetWord(text, 0))
	}
	return words
}

// bytesOf and wordOf stand apart from the program's own words.
func bytesOf(w int) [4]int { return [4]int{w >> 24 & 255, w >> 16 & 255, w >> 8 & 255, w & 255} }

func wordOf(four [4]int) int { return four[0]<<24 | four[1]<<16 | four[2]<<8 | four[3] }

// byRows is the word whose bytes are the sums of the products of a row of factors and the bytes of w.
func byRows(w int, rows [4][4]int) int {
	var made [4]int
	for r, row := range rows {
		for k, b := range bytesOf(w) {
			made[r] ^= productByDivision(row[k], b)
		}
	}
	return wordOf(made)
}

func unmixedByRows(w int) int {
	return byRows(w, [4][4]int{{14, 11, 13, 9}, {9, 14, 11, 13}, {13, 9, 14, 11}, {11, 13, 9, 14}})
}

func mixedByRows(w int) int {
	return byRows(w, [4][4]int{{2, 3, 1, 1}, {1, 2, 3, 1}, {1, 1, 2, 3}, {3, 1, 1, 2}})
}

// expandedByBytes reckons with bytes alone, a key's length of them at a time.
func expandedByBytes(key string) []int {
	n := len(key) / 4
	grown := []byte(key)
	for power := 1; len(grown) < 16*(n+7); power = productByDivision(power, 2) {
		last := grown[len(grown)-4:]
		t := [4]byte{boxed(last[1]) ^ byte(power), boxed(last[2]), boxed(last[3]), boxed(last[0])}
		for j := range n {
			if n == 8 && j == 4 {
				t = [4]byte{boxed(t[0]), boxed(t[1]), boxed(t[2]), boxed(t[3])}
			}
			for k := range t {
				t[k] ^= grown[len(grown)-4*n]
				grown = append(grown, t[k])
			}
		}
	}
	var words []int
	for at := 0; at < 16*(n+7); at += 4 {
		words = append(words, int(grown[at])<<24|int(grown[at+1])<<16|int(grown[at+2])<<8|int(grown[at+3]))
	}
	return words
}

func boxed(b byte) byte { return byte(subBySearch(int(b))) }

// lockedWith locks a block as the standard has it, with round keys that are given.
func lockedWith(words []int, block string) string {
	state := impl.Xor(block, textOfWords(words[:4]))
	for at := 4; at < len(words); at += 4 {
		state = impl.SubText(state)
		var next []byte
		for i := range 16 {
			next = append(next, state[(5*i)%16])
		}
		state = string(next)
		if at+4 < len(words) {
			state = eachColumn(state, mixedByRows)
		}
		state = impl.Xor(state, textOfWords(words[at:at+4]))
	}
	return state
}

// unlockedWith is the standard's other way of unlocking: the steps of locking in their order, with unmixed keys from the last on.
func unlockedWith(words []int, block string) string {
	state := impl.Xor(block, textOfWords(words[len(words)-4:]))
	for at := len(words) - 8; at >= 0; at -= 4 {
		state = impl.UnsubText(state)
		var next []byte
		for i := range 16 {
			next = append(next, state[(13*i)%16])
		}
		state = string(next)
		if at > 0 {
			state = eachColumn(state, unmixedByRows)
		}
		state = impl.Xor(state, textOfWords(words[at:at+4]))
	}
	return state
}

func eachColumn(s string, change func(int) int) string {
	changed := ""
	for at := 0; at < len(s); at += 4 {
		changed += impl.PutWord(change(impl.GetWord(s, at)))
	}
	return changed
}

func textOfWords(words []int) string {
	block := ""
	for _, w := range words {
		block += impl.PutWord(w)
	}
	return block
}

func TestKeyOk(t *testing.T) {
	for n := range 600 {
		for _, sign := range []string{"\x00", "k", "\xff"} {
			want := n == 16 || n == 24 || n == 32
			if got := impl.KeyOk(strings.Repeat(sign, n)); got != want {
				t.Errorf("KeyOk of %d bytes %q = %t", n, sign, got)
			}
		}
	}
	for _, key := range someKeys() {
		if !impl.KeyOk(key) {
			t.Errorf("KeyOk(%q) = false", key)
		}
	}
	for _, key := range noKeys() {
		if impl.KeyOk(key) {
			t.Errorf("KeyOk of %d bytes = true", len(key))
		}
	}
	// Bytes count, not signs: 8 and 16 signs of two bytes are right, 16 signs of three bytes are not.
	if !impl.KeyOk(strings.Repeat("\u00e9", 16)) || !impl.KeyOk(strings.Repeat("\u00e9", 8)) || impl.KeyOk(strings.Repeat("\u20ac", 16)) {
		t.Error("KeyOk doesn't count bytes")
	}
}

func TestRounds(t *testing.T) {
	for n := range 600 {
		want := map[int]int{16: 10, 24: 12, 32: 14}[n]
		if got := impl.Rounds(strings.Repeat("\x80", n)); got != want {
			t.Errorf("Rounds of %d bytes = %d, not %d", n, got, want)
		}
	}
	for _, key := range someKeys() {
		if got := impl.Rounds(key); got != len(key)/4+6 {
			t.Errorf("Rounds(%q) = %d", key, got)
		}
	}
	for _, key := range noKeys() {
		if got := impl.Rounds(key); got != 0 {
			t.Errorf("Rounds of %d bytes = %d", len(key), got)
		}
	}
}

// The keys and their words are those that the standard prints.
func TestExpandAsTheStandardPrints(t *testing.T) {
	for key, want := range standardWords() {
		got := impl.Expand(textOfWords(wordsOfHex(t, key)))
		if !slices.Equal(got, wordsOfHex(t, key+" "+want)) {
			t.Errorf("Expand of %s: %#x", key, got)
		}
	}
}

// standardWords has by each key the words that follow it.
func standardWords() map[string]string {
	return map[string]string{
		"2b7e1516 28aed2a6 abf71588 09cf4f3c": `
			a0fafe17 88542cb1 23a33939 2a6c7605 f2c295f2 7a96b943 5935807a 7359f67f 3d80477d 4716fe3e 1e237e44 6d7a883b
			ef44a541 a8525b7f b671253b db0bad00 d4d1c6f8 7c839d87 caf2b8bc 11f915bc 6d88a37a 110b3efd dbf98641 ca0093fd
			4e54f70e 5f5fc9f3 84a64fb2 4ea6dc4f ead27321 b58dbad2 312bf560 7f8d292f ac7766f3 19fadc21 28d12941 575c006e
			d014f9a8 c9ee2589 e13f0cc8 b6630ca6`,
		"8e73b0f7 da0e6452 c810f32b 809079e5 62f8ead2 522c6b7b": `
			fe0c91f7 2402f5a5 ec12068e 6c827f6b 0e7a95b9 5c56fec2 4db7b4bd 69b54118 85a74796 e92538fd e75fad44 bb095386
			485af057 21efb14f a448f6d9 4d6dce24 aa326360 113b30e6 a25e7ed5 83b1cf9a 27f93943 6a94f767 c0a69407 d19da4e1
			ec1786eb 6fa64971 485f7032 22cb8755 e26d1352 33f0b7b3 40beeb28 2f18a259 6747d26b 458c553e a7e1466c 9411f1df
			821f750a ad07d753 ca400538 8fcc5006 282d166a bc3ce7b5 e98ba06f 448c773c 8ecc7204 01002202`,
		"603deb10 15ca71be 2b73aef0 857d7781 1f352c07 3b6108d7 2d9810a3 0914dff4": `
			9ba35411 8e6925af a51a8b5f 2067fcde a8b09c1a 93d194cd be49846e b75d5b9a d59aecb8 5bf3c917 fee94248 de8ebe96
			b5a9328a 2678a647 98312229 2f6c79b3 812c81ad dadf48ba 24360af2 fab8b464 98c5bfc9 bebd198e 268c3ba7 09e04214
			68007bac b2df3316 96e939e4 6c518d80 c814e204 76a9fb8a 5025c02d 59c58239 de136967 6ccc5a71 fa256395 9674ee15
			5886ca5d 2e2f31d7 7e0af1fa 27cf73c3 749c47ab 18501dda e2757e4f 7401905a cafaaae3 e4d59b34 9adf6ace bd10190d
			fe4890d1 e6188d0b 046df344 706c631e`,
	}
}

func TestExpand(t *testing.T) {
	for _, key := range someKeys() {
		want := expandedByBytes(key)
		got := impl.Expand(key)
		if len(got) != len(key)+28 || !slices.Equal(got, want) {
			t.Errorf("Expand(%q) = %#x, not %#x", key, got, want)
		}
	}
}

// Each word stands to the ones ahead as the document says, told by the program's own words.
func TestExpandWordByWord(t *testing.T) {
	for _, key := range someKeys() {
		words, n := impl.Expand(key), len(key)/4
		for i := n; i < len(words); i++ {
			ahead := words[i-1]
			switch {
			case i%n == 0:
				ahead = impl.SubWord(impl.Turn(ahead, 8)) ^ impl.Rcon(i/n)
			case n == 8 && i%8 == 4:
				ahead = impl.SubWord(ahead)
			}
			if words[i] != words[i-n]^ahead {
				t.Errorf("word %d of %q is %#x", i, key, words[i])
			}
		}
	}
}

// Only keys of eight words have words in the middle that go through the box.
func TestKeysOfEightWords(t *testing.T) {
	for _, n := range []int{4, 6, 8} {
		words := impl.Expand(strings.Repeat("\x00", 4*n))
		for i := n; i < len(words); i++ {
			plain := words[i] == words[i-n]^words[i-1]
			if want := i%n != 0 && (n != 8 || i%8 != 4); plain != want {
				t.Errorf("a key of %d words: word %d is %#x", n, i, words[i])
			}
		}
	}
	words := impl.Expand(strings.Repeat("\x00", 32))
	if !slices.Equal(words[8:17], []int{
		0x62636363, 0x62636363, 0x62636363, 0x62636363, 0xaafbfbfb, 0xaafbfbfb, 0xaafbfbfb, 0xaafbfbfb, 0x6f6c6ccf,
	}) {
		t.Errorf("the words of 32 noughts: %#x", words)
	}
}

func TestRoundKeysLockAsTheStandardDoes(t *testing.T) {
	for _, key := range someKeys() {
		standard, err := aes.NewCipher([]byte(key))
		if err != nil {
			t.Fatal(err)
		}
		locked := make([]byte, 16)
		for _, block := range []string{strings.Repeat("\x00", 16), everyByte()[3:19], everyByte()[240:], key[len(key)-16:]} {
			standard.Encrypt(locked, []byte(block))
			if got := lockedWith(impl.Expand(key), block); got != string(locked) {
				t.Errorf("with the words of %q %q comes to %q", key, block, got)
			}
			if got := unlockedWith(impl.Unmixed(key), string(locked)); got != block {
				t.Errorf("with the unmixed words of %q %q comes to %q", key, locked, got)
			}
		}
	}
}

func TestTheFirstRoundKeysAreTheKeyItself(t *testing.T) {
	for _, key := range someKeys() {
		first := impl.RoundKey(key, 0) + impl.RoundKey(key, 1)
		if first[:len(key)] != key {
			t.Errorf("the first round keys of %q are %q", key, first)
		}
		for i := range len(key) / 4 {
			if got := impl.Expand(key)[i]; got != impl.GetWord(key, 4*i) {
				t.Errorf("word %d of %q is %#x", i, key, got)
			}
		}
	}
}

func TestWhatIsUnmixedIsMixed(t *testing.T) {
	for _, key := range someKeys() {
		words, unmixed := impl.Expand(key), impl.Unmixed(key)
		if len(unmixed) != len(words) {
			t.Fatalf("Unmixed(%q) has %d words", key, len(unmixed))
		}
		for i, w := range unmixed {
			if i < 4 || i >= len(words)-4 {
				if w != words[i] {
					t.Errorf("word %d of %q doesn't stay: %#x", i, key, w)
				}
				continue
			}
			if mixedByRows(w) != words[i] || unmixedByRows(words[i]) != w {
				t.Errorf("word %d of %q is unmixed to %#x", i, key, w)
			}
		}
	}
}

func TestUnmixed(t *testing.T) {
	key := "\x2b\x7e\x15\x16\x28\xae\xd2\xa6\xab\xf7\x15\x88\x09\xcf\x4f\x3c"
	words := impl.Unmixed(key)
	for i, want := range map[int]int{
		0: 0x2b7e1516, 3: 0x09cf4f3c, 4: 0x2b3708a7, 5: 0xf262d405, 6: 0xbc3ebdbf, 7: 0x4b617d62, 36: 0x0c7b5a63, 39: 0x664cfbb4,
		40: 0xd014f9a8, 43: 0xb6630ca6,
	} {
		if words[i] != want {
			t.Errorf("unmixed word %d is %#x, not %#x", i, words[i], want)
		}
	}
	// What is the same in all four bytes stays: each row of factors has the sum 1.
	same := impl.Unmixed(strings.Repeat("\x5c", 32))
	for i, w := range same[:8] {
		if w != 0x5c5c5c5c {
			t.Errorf("unmixed word %d of equal bytes is %#x", i, w)
		}
	}
}

// The words of a longer key that stand behind its first four are unmixed, though they are the key's own.
func TestUnmixedWordsOfTheKey(t *testing.T) {
	for _, key := range someKeys() {
		words := impl.Unmixed(key)
		for i := range len(key) / 4 {
			w := impl.GetWord(key, 4*i)
			if i >= 4 {
				w = unmixedByRows(w)
			}
			if words[i] != w {
				t.Errorf("unmixed word %d of %q is %#x, not %#x", i, key, words[i], w)
			}
		}
	}
}

func TestRoundKey(t *testing.T) {
	for _, key := range someKeys() {
		words, rounds := expandedByBytes(key), impl.Rounds(key)
		all := ""
		for i := -3; i <= rounds+40; i++ {
			want := ""
			if i >= 0 && i <= rounds {
				want = textOfWords(words[4*i : 4*i+4])
			}
			got := impl.RoundKey(key, i)
			if got != want {
				t.Errorf("RoundKey(%q, %d) = %q, not %q", key, i, got, want)
			}
			all += got
		}
		if all != textOfWords(impl.Expand(key)) {
			t.Errorf("all round keys of %q are %q", key, all)
		}
	}
}

// No product of a great number and 4 may come round to a place that is there.
func TestRoundKeyOfNoRound(t *testing.T) {
	places := extremes()
	for i := range 40 {
		for _, great := range []int{1 << 59, 1 << 60, 1 << 61, 1 << 62, 3 << 61, math.MinInt, -1 << 62, -1 << 61, 1 << 32, 1 << 30} {
			places = append(places, great+i)
		}
	}
	for _, key := range []string{strings.Repeat("k", 16), strings.Repeat("k", 24), strings.Repeat("k", 32)} {
		for _, i := range places {
			if got := impl.RoundKey(key, i); got != "" && (i < 0 || i > impl.Rounds(key)) {
				t.Errorf("RoundKey of %d bytes at %d = %q", len(key), i, got)
			}
		}
	}
}

func TestTextsThatAreNoKeys(t *testing.T) {
	for _, key := range noKeys() {
		if got := impl.Expand(key); len(got) != 0 {
			t.Errorf("Expand of %d bytes has %d words", len(key), len(got))
		}
		if got := impl.Unmixed(key); len(got) != 0 {
			t.Errorf("Unmixed of %d bytes has %d words", len(key), len(got))
		}
		for _, i := range []int{0, 1, -1, 10, 11, math.MaxInt, math.MinInt, 1 << 62} {
			if got := impl.RoundKey(key, i); got != "" {
				t.Errorf("RoundKey of %d bytes at %d = %q", len(key), i, got)
			}
		}
	}
}

// Keys that differ in one bit have other words: nothing of a key is passed over.
func TestEachBitOfAKeyCounts(t *testing.T) {
	for _, n := range []int{16, 24, 32} {
		key := everyByte()[100 : 100+n]
		words := impl.Expand(key)
		for bit := range 8 * n {
			other := []byte(key)
			other[bit/8] ^= 1 << (bit % 8)
			differ := 0
			for i, w := range impl.Expand(string(other)) {
				if w != words[i] {
					differ++
				}
			}
			if differ < len(words)/2 {
				t.Errorf("bit %d of a key of %d bytes changes only %d words", bit, n, differ)
			}
		}
	}
}

func TestKeyListsAreNew(t *testing.T) {
	for _, key := range someKeys() {
		was := strings.Clone(key)
		for name, tell := range map[string]func(string) []int{"Expand": impl.Expand, "Unmixed": impl.Unmixed} {
			first, second := tell(key), tell(key)
			kept := slices.Clone(second)
			for i := range first[:cap(first)] {
				first[:cap(first)][i] = -1
			}
			if !slices.Equal(second, kept) || !slices.Equal(tell(key), kept) || key != was {
				t.Errorf("%s(%q) hangs on an earlier answer", name, key)
			}
		}
		for i := range impl.Rounds(key) + 1 {
			first := impl.RoundKey(key, i)
			if second := impl.RoundKey(key, i); second != first || liesIn(second, first) || liesIn(first, key) {
				t.Errorf("RoundKey(%q, %d) is no new memory", key, i)
			}
		}
		if key != was {
			t.Errorf("the key %q was written into", was)
		}
	}
}

// Whatever is given, the numbers of an answer are words, and they are the same again.
func TestKeysAnswerAtAnything(t *testing.T) {
	for _, key := range append(append(noKeys(), someKeys()...), boxTexts()...) {
		for name, tell := range map[string]func(string) []int{"Expand": impl.Expand, "Unmixed": impl.Unmixed} {
			words := tell(key)
			if len(words) != 0 != impl.KeyOk(key) || !slices.Equal(words, tell(key)) {
				t.Errorf("%s of %d bytes has %d words", name, len(key), len(words))
			}
			for i, w := range words {
				if w < 0 || w > wordMask {
					t.Errorf("%s(%q) has %d at %d", name, key, w, i)
				}
			}
		}
	}
	for _, key := range append(boxTexts(), strings.Repeat("\xff", 16), strings.Repeat("\xff", 24), strings.Repeat("\xff", 32)) {
		for _, i := range extremes() {
			got := impl.RoundKey(key, i)
			there := impl.KeyOk(key) && i >= 0 && i <= impl.Rounds(key)
			if there && len(got) != 16 || !there && got != "" || impl.RoundKey(key, i) != got {
				t.Errorf("RoundKey of %d bytes at %d = %q", len(key), i, got)
			}
		}
	}
}
