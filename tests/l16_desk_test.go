package tests

import (
	"encoding/hex"
	"fmt"
	"math"
	"math/rand"
	"slices"
	"strings"
	"sync"
	"testing"

	"loop.example/g00835/impl"
)

// saidByTheChapter goes by the standard, and by reckonings apart from the program, at right desks.
func saidByTheChapter(t *testing.T, d impl.Desk, line string) (impl.Desk, string) {
	t.Helper()
	words := strings.FieldsFunc(line, func(r rune) bool { return r == ' ' || r == '\t' })
	switch strings.Join(words, " ") {
	case "engine byte", "engine table", "engine slice":
		d.Engine = map[string]int{"byte": 0, "table": 1, "slice": 2}[words[1]]
		return d, "ok"
	case "mode each", "mode chain", "mode count":
		d.Mode = map[string]int{"each": 0, "chain": 1, "count": 2}[words[1]]
		return d, "ok"
	case "close":
		d.Stream, d.Open = impl.Stream{}, false
		return d, "ok"
	case "open":
		if reason := firstReason(d.Engine, impl.MoCount, d.Key, d.Iv); reason != impl.CoOk {
			return d, shownByTheChapter("", reason)
		}
		d.Stream, d.Open = impl.Stream{Engine: d.Engine, Key: d.Key, Block: d.Iv}, true
		return d, "ok"
	}
	texts, ok := textsOfWords(words)
	if !ok {
		return d, "?"
	}
	switch fmt.Sprintf("%s %d", words[0], len(texts)) {
	case "key 1":
		if len(texts[0]) <= 40 {
			d.Key = texts[0]
			return d, "ok"
		}
	case "iv 1":
		if len(texts[0]) <= 40 {
			d.Iv = texts[0]
			return d, "ok"
		}
	case "feed 1":
		if !d.Open {
			return d, "no"
		}
		stream, text := fedByTheChapter(d.Stream, texts[0])
		d.Stream = stream
		return d, shownByTheChapter(text, impl.CoOk)
	case "lock 1", "unlock 1", "mac 1", "wrap 1", "unwrap 1":
		return d, textSaidByTheChapter(t, d, words[0], texts[0])
	case "seal 2", "unseal 2":
		return d, sealSaidByTheChapter(t, d, words[0], texts[0], texts[1])
	}
	return d, "?"
}

// textsOfWords are those of all words but the first.
func textsOfWords(words []string) ([]string, bool) {
	var texts []string
	for i, word := range words {
		text, err := hex.DecodeString(word)
		switch {
		case i == 0:
		case word == "-":
			texts = append(texts, "")
		case err != nil || hex.EncodeToString(text) != word:
			return nil, false
		default:
			texts = append(texts, string(text))
		}
	}
	return texts, len(words) > 0
}

func shownByTheChapter(text string, code int) string {
	switch {
	case code != impl.CoOk:
		return fmt.Sprint("no ", code)
	case text == "":
		return "-"
	}
	return hex.EncodeToString([]byte(text))
}

// textSaidByTheChapter is what is answered to lines of one text that leave a desk as it was.
func textSaidByTheChapter(t *testing.T, d impl.Desk, command, s string) string {
	t.Helper()
	modeReason, keyReason := firstReason(d.Engine, d.Mode, d.Key, d.Iv), firstReason(0, 0, d.Key, "")
	switch {
	case command == "mac" && keyReason != impl.CoOk:
		return "no"
	case command == "mac":
		return shownByTheChapter(macOfStandard(t, d.Key, s), impl.CoOk)
	case strings.HasSuffix(command, "lock") && modeReason != impl.CoOk:
		return shownByTheChapter("", modeReason)
	case command == "lock":
		return shownByTheChapter(standardEncrypt(t, d.Mode, d.Key, d.Iv, s), impl.CoOk)
	case command == "unlock":
		return shownByTheChapter(standardDecrypt(t, d.Mode, d.Key, d.Iv, s))
	case keyReason != impl.CoOk:
		return shownByTheChapter("", keyReason)
	case command == "wrap" && slices.Contains(wrapSizes, len(s)):
		return shownByTheChapter(wrapByTheChapter(t, d.Key, standardMark, s), impl.CoOk)
	case command == "wrap" || !slices.Contains(wrapSizes, len(s)-8):
		return shownByTheChapter("", impl.CoLength)
	}
	mark, text := unwrapByTheChapter(t, d.Key, s)
	if mark != standardMark {
		return shownByTheChapter("", impl.CoSeal)
	}
	return shownByTheChapter(text, impl.CoOk)
}

func sealSaidByTheChapter(t *testing.T, d impl.Desk, command, open, s string) string {
	t.Helper()
	switch {
	case firstReason(0, 0, d.Key, "") != impl.CoOk:
		return shownByTheChapter("", impl.CoKey)
	case len(d.Iv) < 12:
		return shownByTheChapter("", impl.CoIv)
	case command == "seal":
		return shownByTheChapter(standardSeal(t, d.Key, d.Iv[:12], open, s), impl.CoOk)
	case len(s) < 16:
		return shownByTheChapter("", impl.CoLength)
	}
	text := standardRaw(t, impl.MoCount, d.Key, d.Iv[:12]+"\x00\x00\x00\x02", s[:len(s)-16], true)
	if standardSeal(t, d.Key, d.Iv[:12], open, text) != s {
		return shownByTheChapter("", impl.CoSeal)
	}
	return shownByTheChapter(text, impl.CoOk)
}

// holdSay also holds that a right desk stays so, and tells the one behind the line.
func holdSay(t *testing.T, d impl.Desk, line string, behind impl.Desk, want string) impl.Desk {
	t.Helper()
	next, answer := impl.Say(d, line)
	if next != behind || answer != want {
		t.Errorf("Say of %#v and %.120q = %#v, %.120q, not %#v, %.120q", d, line, next, answer, behind, want)
	}
	if !impl.DeskOk(d) || !impl.DeskOk(next) {
		t.Errorf("%#v or %#v isn't right, behind %.120q", d, next, line)
	}
	return next
}

func holdSayByTheChapter(t *testing.T, d impl.Desk, line string) (impl.Desk, string) {
	t.Helper()
	behind, want := saidByTheChapter(t, d, line)
	return holdSay(t, d, line, behind, want), want
}

// holdAnswer is for lines that leave a desk as it was.
func holdAnswer(t *testing.T, d impl.Desk, line, want string) {
	t.Helper()
	holdSay(t, d, line, d, want)
}

func deskNotRight(t *testing.T, d impl.Desk, line string) {
	t.Helper()
	if impl.DeskOk(d) {
		t.Errorf("%#v is right", d)
	}
	if next, answer := impl.Say(d, line); next != d || answer != "no" {
		t.Errorf("Say of %#v and %.120q = %#v, %.120q", d, line, next, answer)
	}
}

// openStreams are right ones, of each engine and each size of a key, with all sizes of what is left.
func openStreams() []impl.Stream {
	var streams []impl.Stream
	for i, left := range someLefts() {
		streams = append(streams, impl.Stream{Engine: i % 3, Key: threeKeys()[i/3%3], Block: someIvs()[i%len(someIvs())], Left: left})
	}
	return streams
}

// heldTexts has texts of each size that a desk may hold for a key or an iv.
func heldTexts() []string {
	var texts []string
	for n := range 41 {
		texts = append(texts, everyByte()[4*n:][:n], noughtsOf(n))
	}
	return append(texts, append(threeKeys(), someIvs()...)...)
}

// rightDesks have held texts of all sizes, with and without a stream.
func rightDesks() []impl.Desk {
	desks, texts, keys, streams := []impl.Desk{{}}, heldTexts(), threeKeys(), openStreams()
	for i, text := range texts {
		for j := range 9 {
			d := impl.Desk{Engine: j % 3, Mode: j / 3, Key: text, Iv: texts[(i*7+j)%len(texts)]}
			if j%2 == 1 {
				d.Key, d.Iv = keys[j/3], text
			}
			desks = append(desks, d)
			d.Open, d.Stream = true, streams[(i*5+j)%len(streams)]
			desks = append(desks, d)
		}
	}
	return desks
}

// someLines has each kind of line, in what state a desk may be.
func someLines() []string {
	lines := []string{
		"engine byte", "engine table", "engine slice", "mode each", "mode chain", "mode count", "open", "close", "key -", "iv -", "mac -",
		"lock -", "unlock -", "wrap -", "unwrap -", "feed -", "seal - -", "unseal - -", "", "what", "open 00", "lock", "seal -",
	}
	for i, n := range []int{1, 11, 12, 13, 15, 16, 17, 24, 31, 32, 33, 40, 41, 64, 65, 72, 100} {
		s := hex.EncodeToString([]byte(manyBlocks(9)[i:][:n]))
		for _, command := range []string{"key", "iv", "lock", "unlock", "mac", "wrap", "unwrap", "feed"} {
			lines = append(lines, command+" "+s)
		}
		lines = append(lines, "seal "+s+" 00", "seal - "+s, "unseal 00 "+s, "unseal "+s+" -")
	}
	return lines
}

func TestMostThatIsSaid(t *testing.T) {
	if impl.MaxSay != 40 {
		t.Errorf("MaxSay is %d", impl.MaxSay)
	}
}

func TestRightDesks(t *testing.T) {
	for _, d := range rightDesks() {
		if !impl.DeskOk(d) {
			t.Errorf("%#v isn't right", d)
		}
	}
}

// A limit that is met exactly is accepted, one that is passed by one is refused.
func TestHeldTextsAtTheirLimit(t *testing.T) {
	for n := range 300 {
		text := strings.Repeat(everyByte(), 3)[n:][:n]
		for i, d := range []impl.Desk{{Key: text}, {Iv: text}, {Key: text, Iv: text}, {Key: text, Open: true, Stream: openStreams()[n%16]}} {
			if n > 40 {
				deskNotRight(t, d, "close")
			} else if !impl.DeskOk(d) {
				t.Errorf("with %d bytes desk %d isn't right", n, i)
			}
		}
	}
	// Bytes count, not signs: this one has 21 signs.
	deskNotRight(t, impl.Desk{Key: strings.Repeat("\u00e9", 21)}, "close")
	deskNotRight(t, impl.Desk{Iv: strings.Repeat("k", 1<<16)}, "close")
}

func TestDesksThatAreNotRight(t *testing.T) {
	for i, number := range append(extremes(), 6, 128, 258, -254, 1<<16+1, 1<<32+2, math.MinInt+2) {
		if number < 0 || number > 2 {
			line := someLines()[i%len(someLines())]
			deskNotRight(t, impl.Desk{Engine: number}, line)
			deskNotRight(t, impl.Desk{Mode: number}, line)
			deskNotRight(t, impl.Desk{Engine: number, Mode: number, Key: threeKeys()[0], Iv: onesBlock}, line)
			deskNotRight(t, impl.Desk{Engine: number, Key: threeKeys()[1], Open: true, Stream: openStreams()[i%16]}, line)
			deskNotRight(t, impl.Desk{Mode: number, Key: threeKeys()[1], Open: true, Stream: openStreams()[i%16]}, line)
		}
	}
}

// Where a desk isn't Open, its Stream has to be the zero one; where it is, a right one.
func TestDesksWithOtherStreams(t *testing.T) {
	key, line := threeKeys()[0], "close"
	for _, st := range []impl.Stream{{Engine: 1}, {Engine: -1}, {Engine: 3}, {Key: "k"}, {Key: key}, {Block: "b"}, {Block: onesBlock}, {Left: "l"}, {Left: onesBlock}} {
		deskNotRight(t, impl.Desk{Stream: st}, line)
		deskNotRight(t, impl.Desk{Key: key, Iv: onesBlock, Stream: st}, line)
		deskNotRight(t, impl.Desk{Stream: st, Open: true}, line)
	}
	deskNotRight(t, impl.Desk{Open: true}, line)
	deskNotRight(t, impl.Desk{Key: key, Iv: onesBlock, Open: true}, line)
	for i, st := range openStreams() {
		deskNotRight(t, impl.Desk{Stream: st}, someLines()[i])
		deskNotRight(t, impl.Desk{Engine: st.Engine, Key: st.Key, Iv: st.Block, Stream: st}, someLines()[i])
		for j, other := range []impl.Stream{st, st, st, st, st, st, st} {
			switch j {
			case 0:
				other.Engine += 3
			case 1:
				other.Engine -= 3
			case 2:
				other.Key = other.Key[1:]
			case 3:
				other.Block += "x"
			case 4:
				other.Block = other.Block[1:]
			case 5:
				other.Left = onesBlock
			case 6:
				other.Key += "x"
			}
			deskNotRight(t, impl.Desk{Engine: st.Engine, Key: st.Key, Iv: st.Block, Stream: other, Open: true}, someLines()[i])
		}
	}
}

// At a desk that isn't right no line is taken, nor is one told from another.
func TestSayAtDesksThatAreNotRight(t *testing.T) {
	desks := []impl.Desk{
		{Engine: 3}, {Engine: -1, Key: threeKeys()[0]}, {Mode: 3}, {Mode: -1, Iv: onesBlock}, {Key: everyByte()[:41]}, {Iv: everyByte()[:41]},
		{Open: true}, {Stream: impl.Stream{Engine: 1}}, {Stream: openStreams()[5]}, {Key: threeKeys()[0], Open: true, Stream: impl.Stream{Block: onesBlock}},
	}
	lines := append(someLines(), "what is this", "\n", "\x00", "open\n", strings.Repeat("feed 00 ", 1000))
	for _, d := range desks {
		for _, line := range lines {
			deskNotRight(t, d, line)
		}
	}
}

// Keys, ivs and texts of papers on the standard, in the order in which one would say them.
func printedLines() [][2]string {
	sealedText := "d9313225f88406e5a55909c5aff5269a86a7a9531534f7da2e4c303d8a318a721c3c0c95956809532fcf0e2449a6b525b16aedf5aa0de657ba637b39"
	lockedText := "42831ec2217774244b7221b784d0d49ce3aa212f2c02a4e035c17e2329aca12e21d514b25466931c7d8f6a5aac84aa051ba30b396a0aac973d58e091"
	return [][2]string{
		{"key 2b7e151628aed2a6abf7158809cf4f3c", "ok"},
		{"lock 6bc1bee22e409f96e93d7e117393172a", "3ad77bb40d7a3660a89ecaf32466ef97a254be88e037ddd9d79fb6411c3f9df8"},
		{"unlock 3ad77bb40d7a3660a89ecaf32466ef97a254be88e037ddd9d79fb6411c3f9df8", "6bc1bee22e409f96e93d7e117393172a"},
		{"unlock 3ad77bb40d7a3660a89ecaf32466ef97", "no 6"},
		{"mac -", "bb1d6929e95937287fa37d129b756746"},
		{"mac 6bc1bee22e409f96e93d7e117393172a", "070a16b46b4d4144f79bdd9dd04a287c"},
		{"iv f0f1f2f3f4f5f6f7f8f9fafbfcfdfeff", "ok"},
		{"mode count", "ok"},
		{"engine slice", "ok"},
		{"lock 6bc1bee22e409f96e93d7e117393172aae2d8a571e03", "874d6191b620e3261bef6864990db6ce9806f66b7970"},
		{"open", "ok"},
		{"feed 6bc1bee2", "874d6191"},
		{"engine byte", "ok"},
		{"key 000102030405060708090a0b0c0d0e0f", "ok"},
		{"iv -", "ok"},
		{"feed 2e409f96e93d7e117393172aae2d8a", "b620e3261bef6864990db6ce9806f6"},
		{"feed -", "-"},
		{"feed 571e03", "6b7970"},
		{"open", "no 4"},
		{"feed ac9c", "fdff"},
		{"close", "ok"},
		{"feed 00", "no"},
		{"wrap 00112233445566778899aabbccddeeff", "1fa68b0a8112b447aef34bd8fb5a7b829d3e862371d2cfe5"},
		{"unwrap 1fa68b0a8112b447aef34bd8fb5a7b829d3e862371d2cfe5", "00112233445566778899aabbccddeeff"},
		{"unwrap 1fa68b0a8112b447aef34bd8fb5a7b829d3e862371d2cfe4", "no 7"},
		{"key feffe9928665731c6d6a8f9467308308", "ok"},
		{"iv cafebabefacedbaddecaf888ffffffff", "ok"},
		{"seal feedfacedeadbeeffeedfacedeadbeefabaddad2 " + sealedText, lockedText + "5bc94fbc3221a5db94fae95ae7121a47"},
		{"unseal feedfacedeadbeeffeedfacedeadbeefabaddad2 " + lockedText + "5bc94fbc3221a5db94fae95ae7121a47", sealedText},
	}
}

func TestDeskAsTheStandardPrints(t *testing.T) {
	var lines, want []string
	var d impl.Desk
	for _, said := range printedLines() {
		lines, want = append(lines, said[0]), append(want, said[1])
		behind, _ := saidByTheChapter(t, d, said[0])
		d = holdSay(t, d, said[0], behind, said[1])
	}
	if got := impl.Play(strings.Join(lines, "\n")); !slices.Equal(got, want) {
		t.Errorf("Play = %q, not %q", got, want)
	}
}

// What is held by a desk is what the line says, and nothing else is changed.
func TestEnginesAndModesOfADesk(t *testing.T) {
	for _, d := range rightDesks() {
		for number, name := range []string{"byte", "table", "slice"} {
			behind := d
			behind.Engine = number
			holdSay(t, d, "engine "+name, behind, "ok")
			holdAnswer(t, d, "mode "+name, "?")
		}
		for number, name := range []string{"each", "chain", "count"} {
			behind := d
			behind.Mode = number
			holdSay(t, d, "mode "+name, behind, "ok")
			holdAnswer(t, d, "engine "+name, "?")
		}
	}
}

func TestKeysAndIvsOfADesk(t *testing.T) {
	for i, d := range rightDesks() {
		n := i % 46
		text := everyByte()[i%200:][:n]
		word := shownByTheChapter(text, impl.CoOk)
		if n > 40 {
			holdAnswer(t, d, "key "+word, "?")
			holdAnswer(t, d, "iv "+word, "?")
			continue
		}
		key, iv := d, d
		key.Key, iv.Iv = text, text
		holdSay(t, d, "key "+word, key, "ok")
		holdSay(t, d, "iv "+word, iv, "ok")
	}
	for _, n := range []int{41, 42, 64, 80, 255, 256, 257, 296, 1 << 16, 1<<16 + 16} {
		for _, command := range []string{"key ", "iv "} {
			holdAnswer(t, rightDesks()[n%100], command+strings.Repeat("6b", n), "?")
		}
	}
}

// Each kind of line, at desks of all kinds.
func TestSayByTheChapter(t *testing.T) {
	desks := rightDesks()
	for i, line := range someLines() {
		for at := i % 11; at < len(desks); at += 11 {
			holdSayByTheChapter(t, desks[at], line)
		}
	}
}

// A hyphen is the empty text where one is said, and where one is answered.
func TestHyphens(t *testing.T) {
	key, iv := threeKeys()[1], "sixteen bytes :)"
	st := impl.Stream{Engine: impl.EnTable, Key: threeKeys()[2], Block: onesBlock, Left: "abc"}
	for _, engine := range threeEngines {
		for _, mode := range threeModes {
			d := impl.Desk{Engine: engine, Mode: mode, Key: key, Iv: iv, Stream: st, Open: true}
			noKey, noIv := d, d
			noKey.Key, noIv.Iv = "", ""
			holdSay(t, d, "key -", noKey, "ok")
			holdSay(t, d, "iv -", noIv, "ok")
			holdAnswer(t, d, "feed -", "-")
			locked := shownByTheChapter(standardEncrypt(t, mode, key, iv, ""), impl.CoOk)
			holdAnswer(t, d, "lock -", locked)
			holdAnswer(t, d, "unlock "+locked, "-")
			if mode != impl.MoCount {
				holdAnswer(t, d, "unlock -", "no 5")
			}
			holdAnswer(t, d, "mac -", shownByTheChapter(macOfStandard(t, key, ""), impl.CoOk))
			holdAnswer(t, d, "wrap -", "no 5")
			holdAnswer(t, d, "unwrap -", "no 5")
			sealed := shownByTheChapter(standardSeal(t, key, iv[:12], "", ""), impl.CoOk)
			holdAnswer(t, d, "seal - -", sealed)
			holdAnswer(t, d, "unseal - "+sealed, "-")
			holdAnswer(t, d, "unseal "+sealed+" -", "no 5")
			opened := shownByTheChapter(standardSeal(t, key, iv[:12], "-", ""), impl.CoOk)
			holdAnswer(t, d, "seal 2d -", opened)
			holdAnswer(t, d, "unseal 2d "+opened, "-")
			holdAnswer(t, d, "unseal - "+opened, "no 7")
			holdAnswer(t, noKey, "mac -", "no")
			holdAnswer(t, noKey, "lock -", "no 3")
			holdAnswer(t, noKey, "seal - -", "no 3")
			holdAnswer(t, noIv, "seal - -", "no 4")
		}
	}
	holdAnswer(t, impl.Desk{}, "feed -", "no")
}

// Nothing but one hyphen alone is the empty text, and a hyphen is nothing else.
func TestOtherHyphens(t *testing.T) {
	d := impl.Desk{Key: threeKeys()[0], Iv: onesBlock, Open: true, Stream: openStreams()[40]}
	for _, word := range []string{"--", "-0", "-00", "00-", "0-", "-00-", "- -", "- 00", "00 -", "\u2010", "\u2212", "\u2013", "_", "\x2d\x00", "-\n", "\n-", "-\r", "\"\"", "''", "0x", "+", "=-"} {
		for _, command := range []string{"key", "iv", "lock", "unlock", "mac", "wrap", "unwrap", "feed"} {
			holdAnswer(t, d, command+" "+word, "?")
		}
		if !strings.Contains(word, " ") {
			for _, command := range []string{"seal", "unseal"} {
				holdAnswer(t, d, command+" "+word+" 00", "?")
				holdAnswer(t, d, command+" 00 "+word, "?")
				holdAnswer(t, d, command+" - "+word, "?")
				holdAnswer(t, d, command+" "+word+" -", "?")
			}
		}
	}
	for _, line := range []string{"-", "- -", "- - -", "-open", "open -", "close -", "engine -", "mode -", "engine - -", "seal -", "unseal -", "seal - - -", "lock - -", "feed - -", "-feed 00", "key- 00"} {
		holdAnswer(t, d, line, "?")
	}
}

// What is no line of the chapter leaves a desk as it was, whether it is Open and its key is right or not.
func TestOtherLines(t *testing.T) {
	words := []string{
		"engine", "mode", "key", "iv", "lock", "unlock", "mac", "seal", "unseal", "wrap", "unwrap", "feed", "open", "close", "say", "play",
		"byte", "each", "ok", "no", "?", "00", "0", "-", "Open", "OPEN", "Lock", "locks", "loc", "opened", "close.", "\x00", "\u00e9", "\xff",
	}
	var lines []string
	for _, one := range words {
		lines = append(lines, one, one+" byte", one+" each", one+" 0", one+" 00 00 00", one+" 00 00 00 00", one+" AB", one+" aB", one+" 0g",
			one+" 0x00", one+" 000", one+" 00,00", one+" Byte", one+" tables", one+" chain count", one+" byte table", one+" open",
			one+"\n", "\n"+one, one+"\r", one+"\n00", one+" 00\n", one+" 00\r", one+"\v00", one+"\f00", one+"\u00a000", one+"\u200900",
			one+" 00 0", one+" 0 00", one+" 00 AB", one+" AB 00", one+" 00 byte", one+" -\n-", one+" 00\x00", one+"00")
	}
	desks := rightDesks()
	for i, line := range lines {
		if !slices.Contains([]string{"engine byte", "mode each", "open", "close"}, line) {
			holdAnswer(t, desks[i*13%len(desks)], line, "?")
		}
	}
}

// Blanks and bytes 9 stand between words, as many as one likes, and ahead of them and behind.
func TestGapsBetweenWords(t *testing.T) {
	d := impl.Desk{Key: threeKeys()[0], Iv: onesBlock, Open: true, Stream: openStreams()[40]}
	for i, line := range someLines() {
		for _, gap := range []string{" ", "  ", "\t", " \t", "\t\t \t", strings.Repeat(" ", 1000)} {
			behind, want := saidByTheChapter(t, d, line)
			wide := strings.ReplaceAll(line, " ", gap)
			for _, at := range []string{"", " ", "\t", gap} {
				holdSay(t, d, at+wide, behind, want)
				holdSay(t, d, wide+at, behind, want)
				if i%8 == 0 {
					holdSay(t, d, at+wide+at+" ", behind, want)
				}
			}
		}
	}
	for _, line := range []string{"", " ", "\t", " \t ", strings.Repeat(" \t", 1000)} {
		holdAnswer(t, d, line, "?")
	}
}

// The iv of a seal is the first 12 bytes of that of the desk; where it has fewer, there is none.
func TestSealsOfADesk(t *testing.T) {
	for n := range 41 {
		key, iv := threeKeys()[n%3], everyByte()[3*n:][:n]
		for i, s := range []string{"", "a text", manyBlocks(3)[:n]} {
			d := impl.Desk{Engine: n % 3, Mode: i, Key: key, Iv: iv}
			open := openTexts()[(n+i)%12]
			line := " " + shownByTheChapter(open, impl.CoOk) + " "
			if n < 12 {
				holdAnswer(t, d, "seal"+line+"00", "no 4")
				holdAnswer(t, d, "unseal"+line+"00", "no 4")
				continue
			}
			sealed := standardSeal(t, key, iv[:12], open, s)
			holdAnswer(t, d, "seal"+line+shownByTheChapter(s, impl.CoOk), hex.EncodeToString([]byte(sealed)))
			holdAnswer(t, d, "unseal"+line+hex.EncodeToString([]byte(sealed)), shownByTheChapter(s, impl.CoOk))
			holdAnswer(t, d, "unseal"+line+hex.EncodeToString([]byte(changedBit(sealed, n))), "no 7")
			holdAnswer(t, d, "unseal"+line+hex.EncodeToString([]byte(sealed[:15])), "no 5")
			d.Key = key[1:]
			holdAnswer(t, d, "seal"+line+"00", "no 3")
			holdAnswer(t, d, "unseal"+line+"00", "no 3")
		}
	}
}

// A stream goes on by what it began with, whatever is said between; a new one begins anew.
func TestStreamsOfADesk(t *testing.T) {
	s := manyBlocks(20)
	between := []string{"engine byte", "mode chain", "key -", "iv 00", "lock 00", "what", "mac -", "key 000102030405060708090a0b0c0d0e0f", "", "engine slice", "open", "seal - -", "feed", "iv -"}
	for i, iv := range someIvs() {
		key := threeKeys()[i%3]
		begin := impl.Desk{Engine: i % 3, Mode: i / 3, Key: key, Iv: iv}
		row, d, at := standardRow(t, key, iv, len(s)), begin, 0
		d.Open, d.Stream = true, impl.Stream{Engine: i % 3, Key: key, Block: iv}
		d = holdSay(t, begin, "open", d, "ok")
		for n, part := range piecesOf(s, 1+i*i) {
			behind, end := d, at+len(part)
			behind.Stream = streamBehind(t, i%3, key, iv, end)
			d = holdSay(t, d, "feed "+hex.EncodeToString([]byte(part)), behind, hex.EncodeToString([]byte(impl.Xor(part, row[at:]))))
			d, _ = holdSayByTheChapter(t, d, between[n%len(between)])
			at = end
			if !d.Open || d.Stream.Key != key {
				t.Fatalf("%q changes the stream", between[n%len(between)])
			}
		}
		again := begin
		again.Open, again.Stream = true, impl.Stream{Engine: i % 3, Key: key, Block: iv}
		d.Engine, d.Mode, d.Key, d.Iv = begin.Engine, begin.Mode, key, iv
		d = holdSay(t, d, "open", again, "ok")
		holdSay(t, holdSay(t, d, "close", begin, "ok"), "close", begin, "ok")
		holdAnswer(t, begin, "feed 00", "no")
	}
}

// Where no stream can begin, the one that there is stays as it was.
func TestStreamsThatCannotBegin(t *testing.T) {
	for i, d := range rightDesks() {
		reason := firstReason(d.Engine, impl.MoCount, d.Key, d.Iv)
		if reason == impl.CoOk {
			behind := d
			behind.Open, behind.Stream = true, impl.Stream{Engine: d.Engine, Key: d.Key, Block: d.Iv}
			holdSay(t, d, "open", behind, "ok")
		} else {
			holdAnswer(t, d, "open", fmt.Sprint("no ", reason))
		}
		if !d.Open {
			holdAnswer(t, d, "feed "+strings.Repeat("6b", i%50+1), "no")
			holdAnswer(t, d, "feed 0", "?")
			holdAnswer(t, d, "close", "ok")
		}
	}
}

// anyLine is drawn out of each kind of line; often what was answered ahead is said again.
func anyLine(chance *rand.Rand, answers []string) string {
	others := someLines()
	word := func() string {
		switch chance.Intn(7) {
		case 0:
			return "-"
		case 1:
			return hex.EncodeToString([]byte(threeKeys()[chance.Intn(3)]))
		case 2, 3:
			return hex.EncodeToString([]byte(someIvs()[chance.Intn(len(someIvs()))]))
		case 4:
			return hex.EncodeToString([]byte(manyBlocks(8)[:chance.Intn(90)]))
		}
		for range 10 {
			if answer := answers[chance.Intn(len(answers))]; answer != "ok" && answer != "?" {
				return answer
			}
		}
		return "0"
	}
	lines := []string{
		"engine " + []string{"byte", "table", "slice", "other"}[chance.Intn(4)], "mode " + []string{"each", "chain", "count"}[chance.Intn(3)],
		"key " + hex.EncodeToString([]byte(threeKeys()[chance.Intn(3)])), "iv " + hex.EncodeToString([]byte(someIvs()[chance.Intn(len(someIvs()))])),
		"key " + word(), "iv " + word(), "open", "open", "close", "feed " + word(), "feed " + word(), "lock " + word(), "unlock " + word(),
		"unlock " + word(), "mac " + word(), "seal " + word() + " " + word(), "seal - " + word(), "unseal " + word() + " " + word(),
		"unseal - " + word(), "wrap " + word(), "unwrap " + word(), others[chance.Intn(len(others))],
	}
	return lines[chance.Intn(len(lines))]
}

// Whatever is said, behind each line there is the desk and the answer that the chapter has there, and the desk is right.
func TestWhateverIsSaidARightDeskStaysSo(t *testing.T) {
	chance := rand.New(rand.NewSource(16))
	desks, seen := rightDesks(), map[string]int{}
	for i := range 150 {
		d, answers := desks[chance.Intn(len(desks))], []string{"00"}
		if i%2 == 0 {
			d = impl.Desk{}
		}
		var lines []string
		for range 120 {
			line := anyLine(chance, answers[max(0, len(answers)-4):])
			next, answer := holdSayByTheChapter(t, d, line)
			d, lines, answers = next, append(lines, line), append(answers, answer)
			if !strings.HasPrefix(answer, "no") && len(answer) > 2 {
				answer = "a text"
			}
			seen[answer]++
		}
		if i%2 == 0 {
			if got, want := impl.Play(strings.Join(lines[:40], "\n")), answers[1:41]; !slices.Equal(got, want) {
				t.Errorf("Play of %q = %q, not %q", lines[:40], got, want)
			}
		}
	}
	for _, answer := range []string{"ok", "?", "-", "no", "no 3", "no 4", "no 5", "no 6", "no 7", "a text"} {
		if seen[answer] < 5 {
			t.Errorf("%q was answered only %d times", answer, seen[answer])
		}
	}
}

// Bytes of any kind, as they may come, and lines of which one byte is another one.
func TestAnyBytesAreSaid(t *testing.T) {
	chance := rand.New(rand.NewSource(1616))
	signs := "abcdeghiklmnopstuvwxyz0123456789-?  \t\t\n\x00\xff\u00e9"
	d, lines := impl.Desk{Key: threeKeys()[0], Iv: onesBlock, Open: true, Stream: openStreams()[7]}, someLines()
	for range 5000 {
		line := make([]byte, chance.Intn(30))
		for at := range line {
			line[at] = signs[chance.Intn(len(signs))]
		}
		holdSayByTheChapter(t, d, string(line))
		changed := []byte(lines[chance.Intn(len(lines))] + " ")
		changed[chance.Intn(len(changed))] = signs[chance.Intn(len(signs))]
		holdSayByTheChapter(t, d, string(changed))
	}
	for _, line := range textsUpTo(2, everyByte()) {
		holdAnswer(t, d, line, "?")
	}
}

// answersOneByOne says line by line, from the zero Desk on.
func answersOneByOne(lines []string) []string {
	var d impl.Desk
	var answers []string
	for _, line := range lines {
		next, answer := impl.Say(d, line)
		d, answers = next, append(answers, answer)
	}
	return answers
}

// scripts have as many lines as there may be.
func scripts() [][]string {
	chance := rand.New(rand.NewSource(40))
	var all [][]string
	for range 12 {
		lines, answers := []string{"key " + hex.EncodeToString([]byte(threeKeys()[chance.Intn(3)]))}, []string{"00"}
		for len(lines) < 40 {
			lines = append(lines, anyLine(chance, answers))
			answers = answersOneByOne(lines)
		}
		all = append(all, lines)
	}
	var printed []string
	for _, said := range printedLines() {
		printed = append(printed, said[0])
	}
	return append(all, printed)
}

func TestAnswersOfTheBeginningAreTheBeginningOfTheAnswers(t *testing.T) {
	for _, lines := range scripts() {
		want := answersOneByOne(lines)
		for n := range len(lines) + 1 {
			if got := impl.Play(strings.Join(lines[:n], "\n")); !slices.Equal(got, want[:n]) {
				t.Errorf("Play of the first %d lines = %q, not %q", n, got, want[:n])
			}
		}
	}
}

// Where a text is cut, what was answered to the lines that are whole stays; only the last one may be another line then.
func TestTextsThatAreCutAnywhere(t *testing.T) {
	for _, lines := range scripts()[9:] {
		s, want := strings.Join(lines, "\n"), answersOneByOne(lines)
		for at := 1; at <= len(s); at += 3 {
			n := strings.Count(s[:at], "\n")
			got := impl.Play(s[:at])
			if len(got) != n+1 || !slices.Equal(got[:n], want[:n]) {
				t.Errorf("Play of the first %d bytes has %q, not %q", at, got, want[:n])
			}
		}
	}
}

// What comes behind changes nothing of what came ahead.
func TestLinesThatComeBehind(t *testing.T) {
	all := scripts()
	for i, lines := range all {
		want := answersOneByOne(lines[:20])
		for _, other := range all[:4] {
			got := impl.Play(strings.Join(append(slices.Clone(lines[:20]), other[i:i+20]...), "\n"))
			if len(got) != 40 || !slices.Equal(got[:20], want) {
				t.Errorf("the first 20 of %d answers are otherwise with others behind them", len(got))
			}
		}
	}
}

func TestPlayOfMoreThanMaxSay(t *testing.T) {
	for n := 1; n < 100; n++ {
		for _, line := range []string{"what", "mode count", " ", "open", "key " + hex.EncodeToString([]byte(threeKeys()[0])), "\t\r\x00"} {
			lines := slices.Repeat([]string{line}, n)
			var want []string
			if n <= 40 {
				want = answersOneByOne(lines)
			}
			if got := impl.Play(strings.Join(lines, "\n")); !slices.Equal(got, want) {
				t.Errorf("Play of %d lines %q has %d answers, not %d", n, line, len(got), len(want))
			}
		}
	}
}

// A newline stands between two lines, whether there is anything in them or not.
func TestLinesWithNothingInThem(t *testing.T) {
	if got := impl.Play(""); len(got) != 0 {
		t.Errorf("Play of nothing = %q", got)
	}
	for n := 1; n < 100; n++ {
		want := slices.Repeat([]string{"?"}, n+1)
		if n > 39 {
			want = nil
		}
		if got := impl.Play(strings.Repeat("\n", n)); !slices.Equal(got, want) {
			t.Errorf("Play of %d newlines = %q", n, got)
		}
	}
	for s, want := range map[string][]string{
		"mode count\n":             {"ok", "?"},
		"\nmode count":             {"?", "ok"},
		"mode count\n\nmode chain": {"ok", "?", "ok"},
		"mode\ncount":              {"?", "?"},
		"mode count\r\nclose\r\n":  {"?", "?", "?"},
		"close close\nclose":       {"?", "ok"},
		"open\nfeed 00\nmac -":     {"no 3", "no", "no"},
	} {
		if got := impl.Play(s); !slices.Equal(got, want) {
			t.Errorf("Play of %q = %q, not %q", s, got, want)
		}
	}
}

func TestLongLines(t *testing.T) {
	s := manyBlocks(5000)
	d := impl.Desk{Engine: impl.EnTable, Key: threeKeys()[0], Iv: onesBlock, Open: true, Stream: impl.Stream{Engine: impl.EnSlice, Key: threeKeys()[2], Block: onesBlock}}
	for _, mode := range threeModes {
		d.Mode = mode
		locked := hex.EncodeToString([]byte(standardEncrypt(t, mode, d.Key, d.Iv, s)))
		holdAnswer(t, d, "lock "+hex.EncodeToString([]byte(s)), locked)
		holdAnswer(t, d, "unlock "+locked, hex.EncodeToString([]byte(s)))
	}
	behind := d
	behind.Stream = streamBehind(t, impl.EnSlice, threeKeys()[2], onesBlock, len(s))
	holdSay(t, d, "feed "+hex.EncodeToString([]byte(s)), behind, hex.EncodeToString([]byte(impl.Xor(s, standardRow(t, threeKeys()[2], onesBlock, len(s))))))
	for _, line := range []string{strings.Repeat("a", 1<<20), strings.Repeat("open ", 1<<16), "lock " + strings.Repeat("0", 1<<20+1), strings.Repeat(" ", 1<<20) + "-"} {
		holdAnswer(t, d, line, "?")
	}
}

// What is said at one desk, or in one text, doesn't come into another one.
func TestDesksKeepNothing(t *testing.T) {
	desks := rightDesks()
	for i, line := range someLines() {
		d := desks[i*17%len(desks)]
		behind, want := saidByTheChapter(t, d, line)
		for j, other := range someLines() {
			if j%9 == i%9 {
				impl.Say(desks[(i+j*5)%len(desks)], other)
				impl.Say(impl.Desk{Engine: 3}, line)
				impl.Play(other + "\n" + line)
				holdSay(t, d, line, behind, want)
			}
		}
	}
	for _, lines := range scripts() {
		want := answersOneByOne(lines)
		for range 3 {
			impl.Say(impl.Desk{}, "key 00")
			impl.Play("mode chain\nengine slice\niv " + hex.EncodeToString([]byte(onesBlock)) + "\nopen")
			got := impl.Play(strings.Join(lines, "\n"))
			if !slices.Equal(got, want) {
				t.Errorf("Play tells otherwise when it is asked again: %q, not %q", got, want)
			}
			for place := range got[:cap(got)] {
				got[:cap(got)][place] = "changed"
			}
		}
	}
}

func textsOfDesk(d impl.Desk) []string { return append(textsOfStream(d.Stream), d.Key, d.Iv) }

func TestDesksAnswerInNewMemory(t *testing.T) {
	desks := append(rightDesks(), impl.Desk{Engine: 3, Key: "some key", Iv: "some iv", Stream: openStreams()[30]})
	for i, d := range desks {
		was := d
		was.Key, was.Iv = strings.Clone(d.Key), strings.Clone(d.Iv)
		was.Stream.Key, was.Stream.Block, was.Stream.Left = strings.Clone(d.Stream.Key), strings.Clone(d.Stream.Block), strings.Clone(d.Stream.Left)
		for j, said := range someLines() {
			if (i+j)%23 != 0 && said != "open" && said != "what" {
				continue
			}
			line := strings.Clone(said)
			next, answer := impl.Say(d, line)
			holdNewTexts(t, "Say", append(textsOfDesk(d), line), append(textsOfDesk(next), answer))
			again, _ := impl.Say(d, line)
			holdNewTexts(t, "Say", textsOfDesk(next), textsOfDesk(again))
			// Nor do two texts of one answer.
			for at, text := range textsOfDesk(next) {
				holdNewTexts(t, "Say", []string{text}, textsOfDesk(next)[at+1:])
			}
			if d != was || line != said {
				t.Errorf("Say writes into %#v or %q", was, said)
			}
		}
	}
	for _, lines := range scripts() {
		s := strings.Join(lines, "\n")
		was := strings.Clone(s)
		holdNewTexts(t, "Play", []string{s}, impl.Play(s))
		if s != was {
			t.Errorf("Play writes into %q", was)
		}
	}
}

func TestDesksAtTheSameTime(t *testing.T) {
	var all sync.WaitGroup
	for place, lines := range scripts() {
		want := answersOneByOne(lines)
		all.Go(func() {
			for range 10 {
				if got := impl.Play(strings.Join(lines, "\n")); !slices.Equal(got, want) {
					t.Errorf("at place %d Play tells otherwise: %q, not %q", place, got, want)
				}
				if got := answersOneByOne(lines); !slices.Equal(got, want) {
					t.Errorf("at place %d Say tells otherwise: %q, not %q", place, got, want)
				}
			}
		})
	}
	all.Wait()
}
