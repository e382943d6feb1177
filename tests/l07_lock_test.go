package tests

import (
	"crypto/aes"
	"slices"
	"strings"
	"sync"
	"testing"

	"loop.example/g00835/impl"
)

// threeKeys has a right key of each size, of bytes that all differ.
func threeKeys() []string {
	return []string{everyByte()[16:32], everyByte()[100:124], everyByte()[7:39]}
}

// standardLock is what the standard makes of a block, there or back.
func standardLock(t *testing.T, key, block string, back bool) string {
	t.Helper()
	standard, err := aes.NewCipher([]byte(key))
	if err != nil {
		t.Fatal(err)
	}
	made := make([]byte, 16)
	if back {
		standard.Decrypt(made, []byte(block))
	} else {
		standard.Encrypt(made, []byte(block))
	}
	return string(made)
}

// stepsByTheChapter goes as the chapter tells it, by the functions that it names.
func stepsByTheChapter(key, s string) []string {
	ahead := impl.Xor(s, impl.RoundKey(key, 0))
	steps := []string{ahead}
	for i := 1; i < impl.Rounds(key); i++ {
		ahead = impl.Xor(impl.MixColumns(impl.ShiftRows(impl.SubText(ahead))), impl.RoundKey(key, i))
		steps = append(steps, ahead)
	}
	last := impl.Xor(impl.ShiftRows(impl.SubText(ahead)), impl.RoundKey(key, impl.Rounds(key)))
	return append(steps, last)
}

// stepsOfWords stands apart from the program's rounds and keys.
func stepsOfWords(words []int, s string) []string {
	ahead := impl.Xor(s, textOfWords(words[:4]))
	steps := []string{ahead}
	for at := 4; at < len(words); at += 4 {
		ahead = lockedWith(make([]int, 8), ahead) // one round with keys of noughts: the box and the rows alone
		if at+4 < len(words) {
			ahead = eachColumn(ahead, mixedByRows)
		}
		ahead = impl.Xor(ahead, textOfWords(words[at:at+4]))
		steps = append(steps, ahead)
	}
	return steps
}

// lockCases has keys, blocks and their locks as the standard prints them, and as other papers on it do.
func lockCases() [][3]string {
	key16 := "2b7e151628aed2a6abf7158809cf4f3c"
	key24 := "8e73b0f7da0e6452c810f32b809079e562f8ead2522c6b7b"
	key32 := "603deb1015ca71be2b73aef0857d77811f352c073b6108d72d9810a30914dff4"
	nought := strings.Repeat("0", 32)
	return [][3]string{
		{"000102030405060708090a0b0c0d0e0f", "00112233445566778899aabbccddeeff", "69c4e0d86a7b0430d8cdb78070b4c55a"},
		{"000102030405060708090a0b0c0d0e0f1011121314151617", "00112233445566778899aabbccddeeff", "dda97ca4864cdfe06eaf70a0ec0d7191"},
		{"000102030405060708090a0b0c0d0e0f101112131415161718191a1b1c1d1e1f", "00112233445566778899aabbccddeeff", "8ea2b7ca516745bfeafc49904b496089"},
		{key16, "3243f6a8885a308d313198a2e0370734", "3925841d02dc09fbdc118597196a0b32"},
		{key16, "6bc1bee22e409f96e93d7e117393172a", "3ad77bb40d7a3660a89ecaf32466ef97"},
		{key16, "ae2d8a571e03ac9c9eb76fac45af8e51", "f5d3d58503b9699de785895a96fdbaaf"},
		{key16, "30c81c46a35ce411e5fbc1191a0a52ef", "43b1cd7f598ece23881b00e3ed030688"},
		{key16, "f69f2445df4f9b17ad2b417be66c3710", "7b0c785e27e8ad3f8223207104725dd4"},
		{key24, "6bc1bee22e409f96e93d7e117393172a", "bd334f1d6e45f25ff712a214571fa5cc"},
		{key24, "ae2d8a571e03ac9c9eb76fac45af8e51", "974104846d0ad3ad7734ecb3ecee4eef"},
		{key24, "f69f2445df4f9b17ad2b417be66c3710", "9a4b41ba738d6c72fb16691603c18e0e"},
		{key32, "6bc1bee22e409f96e93d7e117393172a", "f3eed1bdb5d2a03c064b5a7e3db181f8"},
		{key32, "30c81c46a35ce411e5fbc1191a0a52ef", "b6ed21b99ca6f4f9f153e7b1beafed1d"},
		{key32, "f69f2445df4f9b17ad2b417be66c3710", "23304b7a39f9f3ff067d8d8f9e24ecc7"},
		{nought, nought, "66e94bd4ef8a2c3b884cfa59ca342b2e"},
		{nought + nought, nought, "dc95c078a2408989ad48a21492842087"},
	}
}

func keyOfHex(t *testing.T, s string) string {
	t.Helper()
	key, ok := impl.Unhex(s)
	if !ok || !impl.KeyOk(key) {
		t.Fatalf("%q is no key", s)
	}
	return key
}

func TestLockAsTheStandardPrints(t *testing.T) {
	for _, c := range lockCases() {
		key, block, locked := keyOfHex(t, c[0]), blockOfHex(t, c[1]), blockOfHex(t, c[2])
		if got := impl.Lock(key, block); got != locked {
			t.Errorf("with %s the lock of %s is %s, not %s", c[0], c[1], impl.Hex(got), c[2])
		}
		if got := impl.Unlock(key, locked); got != block {
			t.Errorf("with %s %s is the lock of %s, not of %s", c[0], c[2], impl.Hex(got), c[1])
		}
	}
}

// The blocks are those that the standard prints as the beginnings of rounds, and the lock behind them.
func TestStepsAsTheStandardPrints(t *testing.T) {
	for _, c := range []struct{ key, block, steps string }{
		{"2b7e151628aed2a6abf7158809cf4f3c", "3243f6a8885a308d313198a2e0370734", `
			193de3bea0f4e22b9ac68d2ae9f84808 a49c7ff2689f352b6b5bea43026a5049 aa8f5f0361dde3ef82d24ad26832469a
			486c4eee671d9d0d4de3b138d65f58e7 e0927fe8c86363c0d9b1355085b8be01 f1006f55c1924cef7cc88b325db5d50c
			260e2e173d41b77de86472a9fdd28b25 5a4142b11949dc1fa3e019657a8c040c ea835cf00445332d655d98ad8596b0c5
			eb40f21e592e38848ba113e71bc342d2 3925841d02dc09fbdc118597196a0b32`},
		{"000102030405060708090a0b0c0d0e0f", "00112233445566778899aabbccddeeff", `
			00102030405060708090a0b0c0d0e0f0 89d810e8855ace682d1843d8cb128fe4 4915598f55e5d7a0daca94fa1f0a63f7
			fa636a2825b339c940668a3157244d17 247240236966b3fa6ed2753288425b6c c81677bc9b7ac93b25027992b0261996
			c62fe109f75eedc3cc79395d84f9cf5d d1876c0f79c4300ab45594add66ff41f fde3bad205e5d0d73547964ef1fe37f1
			bd6e7c3df2b5779e0b61216e8b10b689 69c4e0d86a7b0430d8cdb78070b4c55a`},
	} {
		steps := impl.Steps(keyOfHex(t, c.key), blockOfHex(t, c.block))
		var names []string
		for _, step := range steps {
			names = append(names, impl.Hex(step))
		}
		if want := strings.Fields(c.steps); !slices.Equal(names, want) {
			t.Errorf("with %s %s goes by %q, not %q", c.key, c.block, names, want)
		}
	}
}

func TestSteps(t *testing.T) {
	blocks := someBlocks()
	for i, key := range someKeys() {
		for k := range 12 {
			s := blocks[(i*31+k*43)%len(blocks)]
			got := impl.Steps(key, s)
			if len(got) != impl.Rounds(key)+1 {
				t.Fatalf("Steps(%q, %q) has %d blocks", key, s, len(got))
			}
			if !slices.Equal(got, stepsByTheChapter(key, s)) || !slices.Equal(got, stepsOfWords(expandedByBytes(key), s)) {
				t.Errorf("Steps(%q, %q) = %q", key, s, got)
			}
		}
	}
}

// The last step is taken back without mixing, each one ahead of it only with it.
func TestTheLastRoundDoesNotMix(t *testing.T) {
	for _, key := range threeKeys() {
		for _, s := range someBlocks()[:300] {
			steps, rounds := impl.Steps(key, s), impl.Rounds(key)
			for i := 1; i <= rounds; i++ {
				back := impl.Xor(steps[i], impl.RoundKey(key, i))
				if i < rounds {
					back = impl.UnmixColumns(back)
				}
				if back = impl.UnsubText(impl.UnshiftRows(back)); back != steps[i-1] {
					t.Errorf("round %d of %q and %q goes back to %q, not to %q", i, key, s, back, steps[i-1])
				}
			}
		}
	}
}

func TestLockAndUnlockAsTheStandardDoes(t *testing.T) {
	blocks := someBlocks()
	for i, key := range someKeys() {
		for k := range 30 {
			s := blocks[(i*17+k*19)%len(blocks)]
			if got, want := impl.Lock(key, s), standardLock(t, key, s, false); got != want {
				t.Errorf("Lock(%q, %q) = %q, not %q", key, s, got, want)
			}
			if got, want := impl.Unlock(key, s), standardLock(t, key, s, true); got != want {
				t.Errorf("Unlock(%q, %q) = %q, not %q", key, s, got, want)
			}
		}
	}
}

func TestLockIsTheLastOfSteps(t *testing.T) {
	for _, key := range threeKeys() {
		for _, s := range someBlocks() {
			steps := impl.Steps(key, s)
			if got := impl.Lock(key, s); len(steps) != impl.Rounds(key)+1 || got != steps[len(steps)-1] {
				t.Errorf("Lock(%q, %q) = %q, and not the last of %q", key, s, got, steps)
			}
			if steps[0] != impl.Xor(s, impl.RoundKey(key, 0)) {
				t.Errorf("Steps(%q, %q) begins with %q", key, s, steps[0])
			}
		}
	}
}

func TestABlockComesBackFromItsLock(t *testing.T) {
	for _, key := range append(threeKeys(), someKeys()...) {
		for i, s := range someBlocks() {
			if len(key) != 16 && i%9 != 0 {
				continue
			}
			locked := impl.Lock(key, s)
			if len(locked) != 16 || impl.Unlock(key, locked) != s {
				t.Fatalf("with %q %q is locked as %q and comes back as %q", key, s, locked, impl.Unlock(key, locked))
			}
			unlocked := impl.Unlock(key, s)
			if len(unlocked) != 16 || impl.Lock(key, unlocked) != s {
				t.Fatalf("with %q %q is the lock of %q, whose lock is %q", key, s, unlocked, impl.Lock(key, unlocked))
			}
		}
	}
}

func TestBlocksThatDifferHaveLocksThatDiffer(t *testing.T) {
	blocks := someBlocks()
	for at := range 16 {
		for b := range 256 {
			one := []byte("sixteen bytes :)")
			one[at] = byte(b)
			blocks = append(blocks, string(one))
		}
	}
	for _, key := range threeKeys() {
		for name, tell := range map[string]func(string, string) string{"Lock": impl.Lock, "Unlock": impl.Unlock} {
			from := map[string]string{}
			for _, s := range blocks {
				got := tell(key, s)
				if other, ok := from[got]; len(got) != 16 || ok && other != s {
					t.Errorf("%s with %q of %q and of %q is %q", name, key, s, other, got)
				}
				from[got] = s
			}
		}
	}
}

// Of a thousand locks, each of the one ahead, the way back leads through the same blocks.
func TestLocksOfLocks(t *testing.T) {
	for _, key := range threeKeys() {
		block := strings.Repeat("\x00", 16)
		var way []string
		for range 1000 {
			way = append(way, block)
			locked := impl.Lock(key, block)
			if want := standardLock(t, key, block, false); locked != want {
				t.Fatalf("Lock(%q, %q) = %q, not %q", key, block, locked, want)
			}
			block = locked
		}
		for _, ahead := range slices.Backward(way) {
			if block = impl.Unlock(key, block); block != ahead {
				t.Fatalf("the way back with %q comes to %q, not to %q", key, block, ahead)
			}
		}
	}
}

// Each bit of the key and of the block counts.
func TestEachBitCountsInALock(t *testing.T) {
	s := "sixteen bytes :)"
	for _, key := range threeKeys() {
		locks, unlocks := map[string]string{}, map[string]string{}
		for bit := range 8 * (len(key) + len(s)) {
			both := []byte(key + s)
			both[bit/8] ^= 1 << (bit % 8)
			otherKey, otherBlock := string(both[:len(key)]), string(both[len(key):])
			locks[impl.Lock(otherKey, otherBlock)] = otherKey + otherBlock
			unlocks[impl.Unlock(otherKey, otherBlock)] = otherKey + otherBlock
		}
		if n := 8 * (len(key) + len(s)); len(locks) != n || len(unlocks) != n {
			t.Errorf("of %d keys and blocks there are %d locks and %d unlocked ones", n, len(locks), len(unlocks))
		}
		if locks[impl.Lock(key, s)] != "" || unlocks[impl.Unlock(key, s)] != "" {
			t.Errorf("with %q another bit makes no difference", key)
		}
	}
}

func nothingOfLock(t *testing.T, key, s string) {
	t.Helper()
	if got := impl.Steps(key, s); len(got) != 0 {
		t.Errorf("Steps of %d and %d bytes = %q", len(key), len(s), got)
	}
	if got := impl.Lock(key, s); got != "" {
		t.Errorf("Lock of %d and %d bytes = %q", len(key), len(s), got)
	}
	if got := impl.Unlock(key, s); got != "" {
		t.Errorf("Unlock of %d and %d bytes = %q", len(key), len(s), got)
	}
}

func TestLockRefusesKeysThatAreNotRight(t *testing.T) {
	for i, key := range noKeys() {
		nothingOfLock(t, key, someBlocks()[i%50])
	}
}

func TestLockRefusesWhatIsNoBlock(t *testing.T) {
	for i, s := range noBlocks() {
		nothingOfLock(t, threeKeys()[i%3], s)
		if len(s) < 300 {
			nothingOfLock(t, threeKeys()[(i+1)%3], s)
			nothingOfLock(t, threeKeys()[(i+2)%3], s)
		}
	}
}

func TestLockRefusesWhereBothAreWrong(t *testing.T) {
	blocks := noBlocks()
	for i, key := range noKeys() {
		nothingOfLock(t, key, blocks[i%len(blocks)])
		nothingOfLock(t, key, key[:min(len(key), 15)])
	}
	// All sizes of both: only three by one are right.
	for n := range 40 {
		for m := range 40 {
			if right := (n == 16 || n == 24 || n == 32) && m == 16; !right {
				nothingOfLock(t, strings.Repeat("k", n), strings.Repeat("s", m))
			} else if len(impl.Lock(strings.Repeat("k", n), strings.Repeat("s", m))) != 16 {
				t.Errorf("no lock of %d and %d bytes", n, m)
			}
		}
	}
}

// A block that is none leaves nothing behind: what comes then is as it was.
func TestLockKeepsNothing(t *testing.T) {
	s := "sixteen bytes :)"
	for _, key := range threeKeys() {
		for _, other := range threeKeys() {
			want, back := standardLock(t, key, s, false), standardLock(t, key, s, true)
			nothingOfLock(t, other, s[:15])
			nothingOfLock(t, other[1:], s)
			impl.Lock(other, strings.Repeat("\xff", 16))
			impl.Unlock(other, s)
			if impl.Lock(key, s) != want || impl.Unlock(key, s) != back {
				t.Errorf("with %q, behind %q, %q is locked otherwise", key, other, s)
			}
		}
	}
}

func TestLockAnswersInNewMemory(t *testing.T) {
	for _, key := range threeKeys() {
		for _, s := range append(someBlocks()[:40], key[:16], "sixteen bytes :)") {
			key, s := strings.Clone(key), strings.Clone(s)
			wasKey, was := strings.Clone(key), strings.Clone(s)
			first := impl.Steps(key, s)
			second := impl.Steps(key, s)
			locked, unlocked := impl.Lock(key, s), impl.Unlock(key, s)
			if key != wasKey || s != was {
				t.Fatalf("%q and %q were written into", wasKey, was)
			}
			all := append(append([]string{key, s, locked, unlocked}, first...), second...)
			for i, one := range all[2:] {
				for k, other := range all {
					if k != i+2 && liesIn(one, other) {
						t.Errorf("an answer for %q and %q shares memory with another text", key, s)
					}
				}
			}
			for i := range first {
				first[i] = "written"
			}
			if !slices.Equal(impl.Steps(key, s), second) || second[0] != impl.Xor(s, impl.RoundKey(key, 0)) {
				t.Errorf("Steps(%q, %q) shares its list", key, s)
			}
		}
	}
	whole := everyByte()
	if got := impl.Lock(whole[:32], whole[16:32]); whole != everyByte() || liesIn(got, whole) {
		t.Error("Lock reaches out of its arguments")
	}
}

func TestLocksAtTheSameTime(t *testing.T) {
	var all sync.WaitGroup
	for i, key := range append(threeKeys(), threeKeys()...) {
		all.Go(func() {
			for k, s := range someBlocks()[:100] {
				if got := impl.Unlock(key, impl.Lock(key, s)); got != s {
					t.Errorf("at place %d, %d: %q comes back as %q", i, k, s, got)
				}
				if impl.Lock(key, s[1:]) != "" {
					t.Errorf("at place %d, %d: a lock of 15 bytes", i, k)
				}
			}
		})
	}
	all.Wait()
}
