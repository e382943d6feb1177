package tests

import (
	"math"
	"math/rand"
	"runtime"
	"strings"
	"sync"
	"testing"
	"time"

	"loop.example/g00835/impl"
)

// streamTexts has texts on both sides of where blocks, fours of them, and what is worked at the same time begin anew.
func streamTexts() []string {
	var texts []string
	for n := range 150 {
		texts = append(texts, manyBlocks(11)[n%17:][:n])
	}
	for _, n := range []int{255, 256, 257, 496, 497, 511, 512, 513, 527, 528, 529, 1007, 1023, 1024, 1025, 1040, 1536, 4111, 1<<16 + 5} {
		texts = append(texts, manyBlocks(5000)[:n])
	}
	return append(texts, noughtsBlock, onesBlock+onesBlock, strings.Repeat("\u00e9", 9))
}

// someLefts has texts of each size that may be left, of any bytes.
func someLefts() []string {
	var lefts []string
	for n := range 16 {
		lefts = append(lefts, everyByte()[5*n:][:n], onesBlock[:n], noughtsBlock[:n], everyByte()[240:][:n])
	}
	return append(lefts, strings.Repeat("\u00e9", 7), "\n", " ")
}

// standardRow is what the standard turns n bytes by, from the beginning on.
func standardRow(t *testing.T, key, iv string, n int) string {
	t.Helper()
	return standardRaw(t, impl.MoCount, key, iv, strings.Repeat("\x00", n), false)
}

// streamBehind is the Stream that a text of n bytes leaves behind it, from the beginning on.
func streamBehind(t *testing.T, engine int, key, iv string, n int) impl.Stream {
	t.Helper()
	blocks := (n + 15) / 16
	return impl.Stream{Engine: engine, Key: key, Block: countedByNumbers(iv, blocks), Left: standardRow(t, key, iv, 16*blocks)[n:]}
}

// fedByTheChapter goes byte by byte: where nothing is left, one more block is made.
func fedByTheChapter(st impl.Stream, s string) (impl.Stream, string) {
	turned := ""
	for i := range len(s) {
		if st.Left == "" {
			st.Left, st.Block = impl.Lock(st.Key, st.Block), impl.Count(st.Block, 1)
		}
		turned += string([]byte{s[i] ^ st.Left[0]})
		st.Left = st.Left[1:]
	}
	return st, turned
}

func begun(t *testing.T, engine int, key, iv string) impl.Stream {
	t.Helper()
	st, code := impl.Begin(engine, key, iv)
	if want := (impl.Stream{Engine: engine, Key: key, Block: iv}); st != want || code != impl.CoOk {
		t.Fatalf("Begin(%d, %q, %q) = %#v, %d", engine, key, iv, st, code)
	}
	return st
}

// holdFeed also holds what every right Stream has to have, and tells the one behind the text.
func holdFeed(t *testing.T, st impl.Stream, s string, behind impl.Stream, want string) impl.Stream {
	t.Helper()
	next, got := impl.Feed(st, s)
	if got != want || next != behind {
		t.Errorf("Feed of %#v and %d bytes %.70q = %#v, %.70q, not %#v, %.70q", st, len(s), s, next, got, behind, want)
	}
	if !impl.StreamOk(next) {
		t.Errorf("behind %d bytes %#v isn't right", len(s), next)
	}
	if got := impl.Skip(st, len(s)); got != behind {
		t.Errorf("Skip of %#v and %d = %#v, not %#v", st, len(s), got, behind)
	}
	return next
}

// holdPieces feeds one piece behind the other, and holds each of them against its part of the whole.
func holdPieces(t *testing.T, engine int, key, iv, want string, parts ...string) {
	t.Helper()
	st, at := begun(t, engine, key, iv), 0
	for _, part := range parts {
		end := at + len(part)
		st = holdFeed(t, st, part, streamBehind(t, engine, key, iv, end), want[at:end])
		at = end
	}
	if at != len(want) {
		t.Fatalf("the pieces have %d bytes, not %d", at, len(want))
	}
}

// piecesOf cuts a text after each so many bytes.
func piecesOf(s string, step int) []string {
	var parts []string
	for at := 0; at < len(s); at += step {
		parts = append(parts, s[at:min(at+step, len(s))])
	}
	return parts
}

func asItWas(t *testing.T, st impl.Stream, s string, n int) {
	t.Helper()
	if impl.StreamOk(st) {
		t.Errorf("%#v is right", st)
	}
	if next, got := impl.Feed(st, s); next != st || got != "" {
		t.Errorf("Feed of %#v and %d bytes = %#v, %.70q", st, len(s), next, got)
	}
	if got := impl.Skip(st, n); got != st {
		t.Errorf("Skip of %#v and %d = %#v", st, n, got)
	}
}

func TestRightStreams(t *testing.T) {
	for i, key := range someKeys() {
		for j, left := range someLefts() {
			st := impl.Stream{Engine: (i + j) % 3, Key: key, Block: someBlocks()[(7*i+j)%400], Left: left}
			if !impl.StreamOk(st) {
				t.Errorf("%#v isn't right", st)
			}
		}
	}
	for i, block := range someBlocks() {
		if st := (impl.Stream{Engine: i % 3, Key: threeKeys()[i%3], Block: block}); !impl.StreamOk(st) {
			t.Errorf("%#v isn't right", st)
		}
	}
}

// Each part of a Stream that isn't as it has to be, with others that are, and with others that aren't.
func TestStreamsThatAreNotRight(t *testing.T) {
	right := impl.Stream{Engine: impl.EnTable, Key: threeKeys()[0], Block: onesBlock, Left: "abc"}
	engines := []int{-1, 3}
	keys := []string{"", "x", right.Key[1:], right.Key + "x", strings.Repeat("k", 64)}
	blocks := []string{"", "x", onesBlock[1:], onesBlock + "x", onesBlock + onesBlock}
	lefts := []string{onesBlock, onesBlock + "x", strings.Repeat("\u00e9", 8), strings.Repeat("k", 32)}
	texts := []string{"", "x", noughtsBlock, manyBlocks(5)}
	for i, engine := range append(engines, right.Engine) {
		for j, key := range append(keys, right.Key) {
			for k, block := range append(blocks, right.Block) {
				for l, left := range append(lefts, right.Left) {
					st := impl.Stream{Engine: engine, Key: key, Block: block, Left: left}
					if st != right {
						asItWas(t, st, texts[(i+j+k+l)%4], i+j+k+l)
					}
				}
			}
		}
	}
	if !impl.StreamOk(right) {
		t.Errorf("%#v isn't right", right)
	}
	asItWas(t, impl.Stream{}, "", 0)
	asItWas(t, impl.Stream{}, "a text", 5)
}

func TestStreamsWithOneWrongPart(t *testing.T) {
	right := impl.Stream{Engine: impl.EnByte, Key: threeKeys()[1], Block: noughtsBlock, Left: "0123456789abcde"}
	for _, engine := range append(extremes(), 6, 258, -254, 1<<32+2, math.MinInt+2) {
		if engine < 0 || engine > 2 {
			st := right
			st.Engine = engine
			asItWas(t, st, "a text of more than a block", 40)
		}
	}
	for i, key := range noKeys() {
		asItWas(t, impl.Stream{Engine: i % 3, Key: key, Block: right.Block, Left: right.Left[i%16:]}, manyBlocks(3)[:i%48], i%48)
	}
	for i, block := range noBlocks() {
		asItWas(t, impl.Stream{Engine: i % 3, Key: right.Key, Block: block, Left: right.Left[i%16:]}, manyBlocks(3)[:i%48], i%48)
	}
	for n := 16; n < 300; n++ {
		asItWas(t, impl.Stream{Engine: n % 3, Key: right.Key, Block: right.Block, Left: strings.Repeat(everyByte(), 2)[:n]}, manyBlocks(3)[:n%48], n%48)
	}
	asItWas(t, impl.Stream{Key: right.Key, Block: right.Block, Left: strings.Repeat("k", 1<<16)}, "a text", 6)
}

func TestBegin(t *testing.T) {
	for i, key := range someKeys() {
		for j, iv := range someBlocks() {
			if st := begun(t, (i+j)%3, key, iv); j%16 == 0 && !impl.StreamOk(st) {
				t.Errorf("%#v isn't right", st)
			}
		}
	}
}

func refusedBegin(t *testing.T, engine int, key, iv string, want int) {
	t.Helper()
	if st, code := impl.Begin(engine, key, iv); st != (impl.Stream{}) || code != want {
		t.Errorf("Begin(%d, ..) of %d and %d bytes = %#v, %d, not %d", engine, len(key), len(iv), st, code, want)
	}
}

func TestWhichReasonComesFirstOfBegin(t *testing.T) {
	for _, key := range append(threeKeys(), "", "x", strings.Repeat("k", 17), strings.Repeat("k", 31), strings.Repeat("k", 64)) {
		for _, iv := range []string{"", "x", noughtsBlock, onesBlock[1:], onesBlock + "x", strings.Repeat("k", 24), strings.Repeat("k", 32)} {
			for _, engine := range append(extremes(), 6, 258, -254, 1<<32+2) {
				if reason := firstReason(engine, impl.MoCount, key, iv); reason != impl.CoOk {
					refusedBegin(t, engine, key, iv, reason)
				} else {
					begun(t, engine, key, iv)
				}
			}
		}
	}
	for i, key := range noKeys() {
		refusedBegin(t, i%3, key, noughtsBlock, impl.CoKey)
		refusedBegin(t, i%3, key, "", impl.CoKey)
		refusedBegin(t, i%3+3, key, "", impl.CoEngine)
	}
	for i, iv := range noBlocks() {
		refusedBegin(t, i%3, threeKeys()[i%3], iv, impl.CoIv)
		refusedBegin(t, i%3-3, threeKeys()[i%3], iv, impl.CoEngine)
	}
}

// The four blocks of papers on counted blocks, in pieces of each size.
func TestStreamAsTheStandardPrints(t *testing.T) {
	for i, printed := range []string{
		"874d6191b620e3261bef6864990db6ce9806f66b7970fdff8617187bb9fffdff5ae4df3edbd5d35e5b4f09020db03eab1e031dda2fbe03d1792170a0f3009cee",
		"1abc932417521ca24f2b0459fe7e6e0b090339ec0aa6faefd5ccc2c6f4ce8e941e36b26bd1ebc670d1bd1d665620abf74f78a7f6d29809585a97daec58c6b050",
		"601ec313775789a5b7a7f504bbf3d228f443e3ca4d62b59aca84e990cacaf5c52b0930daa23de94ce87017ba2d84988ddfc9c58db67aada613c2dd08457941a6",
	} {
		key := keyOfHex(t, blockCases()[i][0])
		text, _ := impl.Unhex(blockCases()[i][1])
		want, _ := impl.Unhex(printed)
		for _, engine := range threeEngines {
			for step := 1; step <= len(text); step++ {
				holdPieces(t, engine, key, everyByte()[240:], want, piecesOf(text, step)...)
			}
		}
	}
}

func TestAWholeTextIsWhatIsCounted(t *testing.T) {
	for i, s := range streamTexts() {
		key, iv := threeKeys()[i%3], someIvs()[i/3%len(someIvs())]
		want := standardEncrypt(t, impl.MoCount, key, iv, s)
		for _, engine := range threeEngines {
			holdPieces(t, engine, key, iv, want, s)
			if got, code := impl.Encrypt(engine, impl.MoCount, key, iv, s); got != want || code != impl.CoOk {
				t.Errorf("by %d: %d bytes are counted otherwise", engine, len(s))
			}
		}
	}
}

func TestPiecesOfAllSizes(t *testing.T) {
	s := manyBlocks(40)[3:600]
	for step := 1; step <= len(s); step += 1 + step/70 {
		key, iv := threeKeys()[step%3], someIvs()[step/3%len(someIvs())]
		holdPieces(t, step/5%3, key, iv, standardEncrypt(t, impl.MoCount, key, iv, s), piecesOf(s, step)...)
	}
}

func TestAllCutsInTwo(t *testing.T) {
	for n := range 82 {
		s, key, iv := manyBlocks(6)[n%7:][:n], threeKeys()[n%3], someIvs()[n%len(someIvs())]
		want := standardEncrypt(t, impl.MoCount, key, iv, s)
		for cut := range n + 1 {
			holdPieces(t, (n+cut)%3, key, iv, want, s[:cut], s[cut:])
		}
	}
}

func TestAllCutsInThree(t *testing.T) {
	s, key, iv := manyBlocks(4)[:50], threeKeys()[2], onesBlock[:15]+"\xfe"
	want := standardEncrypt(t, impl.MoCount, key, iv, s)
	for cut := range len(s) + 1 {
		for next := cut; next <= len(s); next++ {
			holdPieces(t, (cut+next)%3, key, iv, want, s[:cut], s[cut:next], s[next:])
		}
	}
}

// Pieces of any sizes, empty ones among them, and pieces that are far greater than what is worked at the same time.
func TestAnyPieces(t *testing.T) {
	chance := rand.New(rand.NewSource(13))
	for i, most := range []int{2, 3, 8, 17, 18, 40, 100, 700, 3000} {
		for range 12 {
			s := manyBlocks(400)[:chance.Intn(2*most+60)]
			key, iv := threeKeys()[chance.Intn(3)], someIvs()[chance.Intn(len(someIvs()))]
			var parts []string
			for at := 0; at < len(s); {
				end := min(len(s), at+chance.Intn(most))
				parts = append(parts, s[at:end])
				at = end
			}
			holdPieces(t, i%3, key, iv, standardEncrypt(t, impl.MoCount, key, iv, s), parts...)
		}
	}
}

// By whichever engine a piece goes: what is left by one is taken by another.
func TestPiecesByOtherEngines(t *testing.T) {
	s, key := manyBlocks(30), threeKeys()[1]
	for i, iv := range someIvs() {
		want := standardEncrypt(t, impl.MoCount, key, iv, s)
		for step := 1; step < 100; step += 7 {
			st, at := begun(t, i%3, key, iv), 0
			for n, part := range piecesOf(s, step) {
				st.Engine = (i + n*n) % 3
				end := at + len(part)
				st = holdFeed(t, st, part, streamBehind(t, st.Engine, key, iv, end), want[at:end])
				at = end
			}
		}
	}
}

// Any right Stream, whatever is left in it, and whether that was ever made of a block or not.
func TestFeedByTheChapter(t *testing.T) {
	for i, left := range someLefts() {
		for n := range 66 {
			st := impl.Stream{Engine: (i + n) % 3, Key: threeKeys()[n%3], Block: someIvs()[(i+n)%len(someIvs())], Left: left}
			s := manyBlocks(6)[i%9:][:n]
			behind, want := fedByTheChapter(st, s)
			holdFeed(t, st, s, behind, want)
		}
	}
	for i, s := range streamTexts() {
		left := someLefts()[i%len(someLefts())]
		st := impl.Stream{Engine: i % 3, Key: threeKeys()[i/3%3], Block: someIvs()[i%len(someIvs())], Left: left}
		row := left + standardRow(t, st.Key, st.Block, len(s)+16)
		behind, blocks := st, (max(0, len(s)-len(left))+15)/16
		behind.Block, behind.Left = countedByNumbers(st.Block, blocks), row[len(s):len(left)+16*blocks]
		holdFeed(t, st, s, behind, impl.Xor(s, row))
	}
}

// What is left of a block, on both sides of its end and of the one behind.
func TestWhatIsLeft(t *testing.T) {
	key, iv := threeKeys()[0], noughtsBlock[:15]+"\xfe"
	row := standardRow(t, key, iv, 48)
	for _, engine := range threeEngines {
		for n, want := range map[int]impl.Stream{
			0:  {Block: noughtsBlock[:15] + "\xfe"},
			1:  {Block: noughtsBlock[:15] + "\xff", Left: row[1:16]},
			15: {Block: noughtsBlock[:15] + "\xff", Left: row[15:16]},
			16: {Block: noughtsBlock[:15] + "\xff"},
			17: {Block: noughtsBlock[:14] + "\x01\x00", Left: row[17:32]},
			31: {Block: noughtsBlock[:14] + "\x01\x00", Left: row[31:32]},
			32: {Block: noughtsBlock[:14] + "\x01\x00"},
			33: {Block: noughtsBlock[:14] + "\x01\x01", Left: row[33:48]},
		} {
			want.Engine, want.Key = engine, key
			holdFeed(t, begun(t, engine, key, iv), row[:n], want, strings.Repeat("\x00", n))
		}
		left := impl.Stream{Engine: engine, Key: key, Block: iv, Left: "0123456789abcde"}
		for n := range 16 {
			want := left
			want.Left = left.Left[n:]
			holdFeed(t, left, left.Left[:n], want, strings.Repeat("\x00", n))
		}
		holdFeed(t, left, left.Left+"x", impl.Stream{Engine: engine, Key: key, Block: noughtsBlock[:15] + "\xff", Left: row[1:16]},
			strings.Repeat("\x00", 15)+impl.Xor("x", row))
	}
}

func TestNothingFedChangesNothing(t *testing.T) {
	for i, left := range someLefts() {
		for _, engine := range threeEngines {
			st := impl.Stream{Engine: engine, Key: threeKeys()[i%3], Block: someBlocks()[i], Left: left}
			holdFeed(t, st, "", st, "")
			if got := impl.Skip(st, 0); got != st {
				t.Errorf("Skip of %#v and 0 = %#v", st, got)
			}
		}
	}
}

// A text only lets its number of bytes be known to what is behind it, and each byte reaches its own place alone.
func TestHowFarAByteOfAStreamReaches(t *testing.T) {
	st := impl.Stream{Engine: impl.EnSlice, Key: threeKeys()[0], Block: onesBlock, Left: "seven b"}
	s := manyBlocks(5)[:75]
	behind, was := impl.Feed(st, s)
	for at := range len(s) {
		for _, engine := range threeEngines {
			st.Engine, behind.Engine = engine, engine
			other := []byte(s)
			other[at] ^= 1 << (at % 8)
			want := []byte(was)
			want[at] ^= 1 << (at % 8)
			holdFeed(t, st, string(other), behind, string(want))
		}
	}
}

// What is turned twice by the same row is what it was, in whatever other pieces it goes back.
func TestFedTextsComeBack(t *testing.T) {
	for i, s := range streamTexts() {
		st := impl.Stream{Engine: i % 3, Key: threeKeys()[i/3%3], Block: someIvs()[i%len(someIvs())], Left: someLefts()[i%len(someLefts())]}
		behind, x := impl.Feed(st, s)
		st.Engine = (i + 1) % 3
		back := ""
		for _, part := range piecesOf(x, 1+len(x)/(2+i%5)) {
			next, y := impl.Feed(st, part)
			st, back = next, back+y
		}
		st.Engine = behind.Engine
		if back != s || st != behind {
			t.Errorf("%d bytes %.70q come back as %.70q, behind them %#v, not %#v", len(s), s, back, st, behind)
		}
	}
}

// Each bit of a key and of a block counts, but for what is left.
func TestEachBitOfAStreamCounts(t *testing.T) {
	for i, key := range threeKeys() {
		st := impl.Stream{Engine: i, Key: key, Block: everyByte()[7:23], Left: "left"}
		s := manyBlocks(2)
		_, was := impl.Feed(st, s)
		for bit := range 8*len(key) + 128 {
			both := []byte(key + st.Block)
			both[bit/8] ^= 1 << (bit % 8)
			other := impl.Stream{Engine: bit % 3, Key: string(both[:len(key)]), Block: string(both[len(key):]), Left: st.Left}
			behind, want := fedByTheChapter(other, s)
			holdFeed(t, other, s, behind, want)
			if want[:4] != was[:4] || want[4:20] == was[4:20] || want[20:] == was[20:] {
				t.Errorf("bit %d makes %q of %q", bit, want, was)
			}
		}
	}
}

func TestSkip(t *testing.T) {
	for i, left := range someLefts() {
		st := impl.Stream{Engine: i % 3, Key: threeKeys()[i%3], Block: someIvs()[i%len(someIvs())], Left: left}
		s := manyBlocks(20)
		behindAll, x := impl.Feed(st, s)
		for n := range len(s) + 1 {
			if n > 90 && n%11 != 0 && n != len(s) {
				continue
			}
			skipped := impl.Skip(st, n)
			behind, _ := impl.Feed(st, s[:n])
			if skipped != behind || !impl.StreamOk(skipped) {
				t.Errorf("Skip of %#v and %d = %#v, not %#v", st, n, skipped, behind)
			}
			holdFeed(t, skipped, s[n:], behindAll, x[n:])
		}
	}
}

func TestSkipGoesOnWhereItWas(t *testing.T) {
	numbers := []int{0, 1, 2, 14, 15, 16, 17, 31, 32, 33, 48, 100, 511, 512, 513, 65536, 499999, 500000}
	for i, n := range numbers {
		for j, m := range numbers {
			st := impl.Stream{Engine: (i + j) % 3, Key: threeKeys()[i%3], Block: someIvs()[j%len(someIvs())], Left: everyByte()[:(i*5+j)%16]}
			if got, want := impl.Skip(impl.Skip(st, n), m), impl.Skip(st, n+m); got != want {
				t.Errorf("Skip of %#v and %d, and then %d, is %#v, not %#v", st, n, m, got, want)
			}
		}
	}
}

// A limit that is met exactly is accepted, one that is passed by one is refused.
func TestSkipAtItsLimits(t *testing.T) {
	s := strings.Repeat("a text of nineteen.", 60000)
	for i, n := range []int{999983, 999984, 999985, 999999, 1000000} {
		key, iv := threeKeys()[i%3], someIvs()[i]
		for _, engine := range threeEngines {
			if got, want := impl.Skip(begun(t, engine, key, iv), n), streamBehind(t, engine, key, iv, n); got != want {
				t.Errorf("Skip of %d bytes by %d = %#v, not %#v", n, engine, got, want)
			}
		}
		st := impl.Stream{Engine: impl.EnSlice, Key: key, Block: iv, Left: everyByte()[3*i:][:3*i]}
		behind, _ := impl.Feed(st, s[:n])
		if got := impl.Skip(st, n); got != behind || got == st {
			t.Errorf("Skip of %#v and %d = %#v, not %#v", st, n, got, behind)
		}
	}
	// A text has no such limit.
	n := 1000001
	key, iv := threeKeys()[0], someIvs()[1]
	next, got := impl.Feed(begun(t, impl.EnTable, key, iv), s[:n])
	if got != standardEncrypt(t, impl.MoCount, key, iv, s[:n]) || next != streamBehind(t, impl.EnTable, key, iv, n) {
		t.Errorf("Feed of %d bytes is otherwise than the standard's, behind it %#v", n, next)
	}
}

func TestSkipOfNumbersOutside(t *testing.T) {
	numbers := append(extremes(), -16, -1000000, 1000001, 1000002, 1000016, 1<<32+5, math.MaxInt-15, math.MinInt+15)
	for i, left := range someLefts() {
		st := impl.Stream{Engine: i % 3, Key: threeKeys()[i%3], Block: someBlocks()[i], Left: left}
		for _, n := range numbers {
			if n >= 0 && n <= 1000000 {
				continue
			}
			if got := impl.Skip(st, n); got != st {
				t.Errorf("Skip of %#v and %d = %#v", st, n, got)
			}
			st.Key = st.Key[1:]
			asItWas(t, st, "a text", n)
			st.Key = threeKeys()[i%3]
		}
	}
}

// Streams that are fed by turns don't come into each other's way, nor does what was refused.
func TestStreamsKeepNothing(t *testing.T) {
	var streams []impl.Stream
	var row []string
	for i, iv := range someIvs() {
		streams = append(streams, begun(t, i%3, threeKeys()[i%3], iv))
		row = append(row, standardRow(t, threeKeys()[i%3], iv, 2000))
	}
	s, at := manyBlocks(130), make([]int, len(streams))
	for n := range 60 {
		for i, st := range streams {
			part := s[at[i]:][:(n*i+n)%31]
			end := at[i] + len(part)
			streams[i] = holdFeed(t, st, part, streamBehind(t, st.Engine, st.Key, someIvs()[i], end), impl.Xor(part, row[i][at[i]:]))
			at[i] = end
			asItWas(t, impl.Stream{Engine: st.Engine, Key: st.Key, Block: st.Block + "x", Left: st.Left}, part, n)
			refusedBegin(t, i+3, st.Key, st.Block, impl.CoEngine)
			// The same again: what was told of a Stream once doesn't change it.
			if next, _ := impl.Feed(st, part); next != streams[i] {
				t.Errorf("%#v is fed otherwise when it is fed again", st)
			}
		}
	}
}

func textsOfStream(st impl.Stream) []string { return []string{st.Key, st.Block, st.Left} }

// holdNewTexts asks that no text of an answer lies in one of those that were given.
func holdNewTexts(t *testing.T, name string, given, told []string) {
	t.Helper()
	for _, text := range told {
		for _, whole := range given {
			// Go itself keeps one copy of each text of one byte.
			if len(text) > 1 && (liesIn(text, whole) || liesIn(whole, text)) {
				t.Errorf("%s tells %.70q out of memory that it was given", name, text)
			}
		}
	}
}

func TestStreamsAnswerInNewMemory(t *testing.T) {
	streams := []impl.Stream{{Engine: 3, Key: "some key", Block: "some block", Left: "something left"}}
	for i, left := range someLefts() {
		streams = append(streams, impl.Stream{Engine: i % 3, Key: threeKeys()[i%3], Block: someIvs()[i%len(someIvs())], Left: left})
	}
	for i, st := range streams {
		begin, _ := impl.Begin(i%3, st.Key, st.Block)
		holdNewTexts(t, "Begin", textsOfStream(st), textsOfStream(begin))
		for n := range 50 {
			was := impl.Stream{Engine: st.Engine, Key: strings.Clone(st.Key), Block: strings.Clone(st.Block), Left: strings.Clone(st.Left)}
			s := strings.Clone(manyBlocks(4)[:n])
			given := append(textsOfStream(st), s)
			next, x := impl.Feed(st, s)
			again, y := impl.Feed(st, s)
			holdNewTexts(t, "Feed", given, append(textsOfStream(next), x))
			holdNewTexts(t, "Feed", append(textsOfStream(next), x), append(textsOfStream(again), y))
			holdNewTexts(t, "Skip", given, textsOfStream(impl.Skip(st, n)))
			holdNewTexts(t, "Skip", given, textsOfStream(impl.Skip(st, -n)))
			if st != was || s != manyBlocks(4)[:n] {
				t.Errorf("%#v and %q are written into", was, s)
			}
		}
	}
	whole := everyByte()
	for n := range 16 {
		st := impl.Stream{Engine: n % 3, Key: whole[:32], Block: whole[16:32], Left: whole[40 : 40+n]}
		impl.Begin(n%3, whole[:24], whole[16:32])
		impl.Feed(st, whole[64:97+n])
		impl.Skip(st, n*n)
	}
	if whole != everyByte() {
		t.Error("what stands around an argument is written into")
	}
}

func TestStreamsAtTheSameTime(t *testing.T) {
	s := manyBlocks(60)
	var all sync.WaitGroup
	for i, iv := range someIvs() {
		want := standardEncrypt(t, impl.MoCount, threeKeys()[i%3], iv, s)
		all.Go(func() {
			for step := 1; step < 60; step += 3 {
				st, _ := impl.Begin((i+step)%3, threeKeys()[i%3], iv)
				got := ""
				for _, part := range piecesOf(s, step) {
					next, x := impl.Feed(st, part)
					if next != impl.Skip(st, len(part)) {
						t.Errorf("at place %d Skip and Feed tell otherwise", i)
					}
					st, got = next, got+x
				}
				if got != want {
					t.Errorf("at place %d pieces of %d make another text", i, step)
				}
			}
		})
	}
	all.Wait()
}

// Whoever sends is done when the answer is there. (One that has said so may take a moment to be gone.)
func TestNothingIsSentOn(t *testing.T) {
	running := runtime.NumGoroutine()
	for i, s := range streamTexts() {
		for _, left := range someLefts() {
			if len(s) > 600 && len(left) != 5 {
				continue
			}
			st := impl.Stream{Engine: i % 3, Key: threeKeys()[i%3], Block: noughtsBlock, Left: left}
			impl.Feed(st, s)
			impl.Skip(st, len(s))
			impl.Feed(impl.Stream{}, s)
		}
	}
	for range 2000 {
		if runtime.NumGoroutine() <= running {
			return
		}
		time.Sleep(time.Millisecond)
	}
	t.Errorf("%d work on", runtime.NumGoroutine()-running)
}
