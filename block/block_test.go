package block

import (
	"crypto/sha256"
	"encoding"
	"encoding/binary"
	"math"
	"math/big"
	"math/rand/v2"
	"slices"
	"strings"
	"testing"

	"paymaster/api"
)

const full = 1<<32 - 1

// abc is the block of abc, padded.
var abc = "abc\x80" + strings.Repeat("\x00", 59) + "\x18"

// blocks are such as have bytes of 0 and of 255, one bit alone, and some that chance (always the same one) picks.
func blocks() []string {
	l := []string{abc, strings.Repeat("\x00", 64), strings.Repeat("\xff", 64), strings.Repeat("\x00\xff", 32), strings.Repeat("\x80\x00\x00\x00", 16)}
	for i := range 64 {
		b := make([]byte, 64)
		b[i] = 1 << (i % 8)
		l = append(l, string(b))
	}
	r := rand.New(rand.NewPCG(4, 64))
	for range 60 {
		b := make([]byte, 64)
		for i := range b {
			b[i] = byte(r.Uint32())
		}
		l = append(l, string(b))
	}
	return l
}

// words are such as carry, or don't, and some that chance picks.
func words() []uint32 {
	l := []uint32{0, 1, 1 << 31, full - 1, full, 0x55555555, 0xaaaaaaaa}
	r := rand.New(rand.NewPCG(32, 4))
	for range 5 {
		l = append(l, r.Uint32())
	}
	return l
}

// states have words of no bits, of all, of one bit alone in one word, and some that chance picks.
func states() []State {
	l := []State{{}, First(), {full, full, full, full, full, full, full, full}, {0, full, 0, full, 0, full, 0, full}, {full, 0, full, 0, full, 0, full, 0}}
	for i := range 8 {
		for bit := range 32 {
			var s State
			s[i] = 1 << bit
			l = append(l, s)
		}
	}
	r := rand.New(rand.NewPCG(8, 32))
	for range 60 {
		var s State
		for i := range s {
			s[i] = r.Uint32()
		}
		l = append(l, s)
	}
	return l
}

// places are those of all constants, and such as have none.
func places() []int {
	l := []int{math.MinInt, -1 << 32, -64, -2, -1, 64, 65, 127, 128, 1 << 32, math.MaxInt}
	for k := range 64 {
		l = append(l, k)
	}
	return l
}

// primes tells the first n primes.
func primes(n int) []int64 {
	var l []int64
	for p := int64(2); len(l) < n; p++ {
		if !slices.ContainsFunc(l, func(q int64) bool { return p%q == 0 }) {
			l = append(l, p)
		}
	}
	return l
}

// behindPoint tells the first 32 bits behind the point of p's root of that degree: the greatest n whose power is at most p times 2^(32 * degree), less what stands ahead of the point.
func behindPoint(p, degree int64) uint32 {
	most := new(big.Int).Lsh(big.NewInt(p), uint(32*degree))
	n := new(big.Int)
	for bit := 40; bit >= 0; bit-- {
		n.SetBit(n, bit, 1)
		if new(big.Int).Exp(n, big.NewInt(degree), nil).Cmp(most) > 0 {
			n.SetBit(n, bit, 0)
		}
	}
	return uint32(n.Uint64())
}

// turned tells x turned right by n, bit by bit.
func turned(x uint32, n int) uint32 {
	var y uint32
	for i := range 32 {
		y |= x >> i & 1 << ((i + 32 - n) % 32)
	}
	return y
}

// moved tells x moved right by n, bit by bit.
func moved(x uint32, n int) uint32 {
	var y uint32
	for i := n; i < 32; i++ {
		y |= x >> i & 1 << (i - n)
	}
	return y
}

// choice and majority go bit by bit too.
func choice(e, f, g uint32) uint32 {
	var y uint32
	for i := range 32 {
		if e>>i&1 == 1 {
			y |= f >> i & 1 << i
		} else {
			y |= g >> i & 1 << i
		}
	}
	return y
}

func majority(a, b, c uint32) uint32 {
	var y uint32
	for i := range 32 {
		if a>>i&1+b>>i&1+c>>i&1 >= 2 {
			y |= 1 << i
		}
	}
	return y
}

// together tells the sum modulo 2^32, from one that has room for it.
func together(l ...uint32) uint32 {
	var sum uint64
	for _, x := range l {
		sum += uint64(x)
	}
	return uint32(sum % (1 << 32))
}

// less tells x less the sum of l, modulo 2^32.
func less(x uint32, l ...uint32) uint32 {
	return uint32((uint64(x) + 1<<32 - uint64(together(l...))) % (1 << 32))
}

func s0(x uint32) uint32 { return turned(x, 7) ^ turned(x, 18) ^ moved(x, 3) }

func s1(x uint32) uint32 { return turned(x, 17) ^ turned(x, 19) ^ moved(x, 10) }

// round is the document's, by the means above.
func round(s State, constant, w uint32) State {
	S1 := turned(s[4], 6) ^ turned(s[4], 11) ^ turned(s[4], 25)
	S0 := turned(s[0], 2) ^ turned(s[0], 13) ^ turned(s[0], 22)
	T := together(s[7], S1, choice(s[4], s[5], s[6]), constant, w)
	return State{together(T, S0, majority(s[0], s[1], s[2])), s[0], s[1], s[2], together(s[3], T), s[4], s[5], s[6]}
}

// byLibrary tells what comes of a state by a block, by the library's SHA-256, into which the state is laid.
func byLibrary(t *testing.T, s State, block string) State {
	t.Helper()
	const magic = "sha\x03"
	text := []byte(magic)
	for _, w := range s {
		text = binary.BigEndian.AppendUint32(text, w)
	}
	text = append(text, make([]byte, 64+8)...)
	h := sha256.New()
	if err := h.(encoding.BinaryUnmarshaler).UnmarshalBinary(text); err != nil {
		t.Fatal(err)
	}
	h.Write([]byte(block))
	text, err := h.(encoding.BinaryMarshaler).MarshalBinary()
	if err != nil {
		t.Fatal(err)
	}
	for i := range s {
		s[i] = binary.BigEndian.Uint32(text[len(magic)+4*i:])
	}
	return s
}

// wrong are texts that haven't 64 bytes (some have 64 runes).
func wrong() []string {
	var l []string
	for _, n := range []int{0, 1, 3, 4, 32, 60, 63, 65, 68, 127, 128, 1 << 16} {
		l = append(l, strings.Repeat("x", n))
	}
	return append(l, abc[1:], abc[:63], abc+"\x00", abc+abc, strings.Repeat("ä", 64))
}

// P4.1
func TestFirst(t *testing.T) {
	want := State{0x6a09e667, 0xbb67ae85, 0x3c6ef372, 0xa54ff53a, 0x510e527f, 0x9b05688c, 0x1f83d9ab, 0x5be0cd19}
	got := First()
	if got != want {
		t.Errorf("First: %x", got)
	}
	for i, p := range primes(8) {
		if root := behindPoint(p, 2); got[i] != root {
			t.Errorf("First: word %d is %x, not %x", i, got[i], root)
		}
	}
	got[0] = 0
	if First() != want {
		t.Error("First: what was told is not the caller's own")
	}
}

// P4.1
func TestConstant(t *testing.T) {
	for k, p := range primes(64) {
		if c, root := Constant(k), behindPoint(p, 3); c != root {
			t.Errorf("Constant of %d: %x, not %x", k, c, root)
		}
	}
	if c := Constant(0); c != 0x428a2f98 {
		t.Errorf("Constant of 0: %x", c)
	}
	if c := Constant(63); c != 0xc67178f2 {
		t.Errorf("Constant of 63: %x", c)
	}
	for _, k := range places() {
		if c := Constant(k); (k < 0 || k > 63) && c != 0 {
			t.Errorf("Constant of %d: %x", k, c)
		}
	}
}

// P4.2
func TestWords(t *testing.T) {
	for _, b := range blocks() {
		w, e := Words(b)
		if e != api.OK || len(w) != 64 {
			t.Fatalf("Words of %x: %d words, %v", b, len(w), e)
		}
		for i, x := range w {
			want := binary.BigEndian.Uint32([]byte(b)[4*(i%16):])
			if i >= 16 {
				want = together(w[i-16], s0(w[i-15]), w[i-7], s1(w[i-2]))
			}
			if x != want {
				t.Fatalf("Words of %x: word %d is %x, not %x", b, i, x, want)
			}
		}
	}
}

// P4.2: words whose sums go past 2^32, as worked out by hand.
func TestWordsPast(t *testing.T) {
	w, e := Words(strings.Repeat("\xff", 64))
	// s0 of all ones is 1fffffff, s1 is 003fffff; with -1 and -1 they come to 203ffffc.
	if e != api.OK || w[0] != full || w[15] != full || w[16] != 0x203ffffc {
		t.Errorf("Words of all ones: %x, %v", w, e)
	}
	w, e = Words(strings.Repeat("\x00", 64))
	if e != api.OK || slices.ContainsFunc(w, func(x uint32) bool { return x != 0 }) {
		t.Errorf("Words of noughts: %x, %v", w, e)
	}
}

// P4.2
func TestWordsWrong(t *testing.T) {
	for _, s := range wrong() {
		if w, e := Words(s); e != api.ErrArg || w != nil {
			t.Errorf("Words of %d bytes: %x, %v", len(s), w, e)
		}
	}
}

// P4.2: what is told is the caller's own.
func TestWordsOwn(t *testing.T) {
	first, _ := Words(abc)
	was := slices.Clone(first)
	clear(first)
	if again, e := Words(abc); e != api.OK || !slices.Equal(again, was) {
		t.Errorf("Words of abc, again: %x, %v", again, e)
	}
}

// P4.3
func TestRoundExamples(t *testing.T) {
	ones := State{full, full, full, full, full, full, full, full}
	for _, x := range []struct {
		s    State
		k    int
		w    uint32
		want State
	}{
		{First(), 0, 0x61626380, State{0x5d6aebcd, 0x6a09e667, 0xbb67ae85, 0x3c6ef372, 0xfa2a4622, 0x510e527f, 0x9b05688c, 0x1f83d9ab}},
		{State{}, 0, 0, State{0x428a2f98, 0, 0, 0, 0x428a2f98, 0, 0, 0}},
		{State{}, 63, 1, State{0xc67178f3, 0, 0, 0, 0xc67178f3, 0, 0, 0}},
		// without a constant
		{State{}, 64, 5, State{5, 0, 0, 0, 5, 0, 0, 0}},
		{State{}, -1, 5, State{5, 0, 0, 0, 5, 0, 0, 0}},
		{State{}, math.MaxInt, full, State{full, 0, 0, 0, full, 0, 0, 0}},
		{State{}, math.MinInt, 0, State{}},
		// each word goes one place on
		{State{0, 1, 0, 0, 0, 0, 0, 0}, 64, 0, State{0, 0, 1, 0, 0, 0, 0, 0}},
		{State{0, 0, 0, 7, 0, 0, 0, 0}, 64, 2, State{2, 0, 0, 0, 9, 0, 0, 0}},
		{State{0, 0, 0, 0, 0, 0, 0, 7}, 64, 2, State{9, 0, 0, 0, 9, 0, 0, 0}},
		// e has no bit: g's count, not f's
		{State{0, 0, 0, 0, 0, 6, 9, 0}, 64, 0, State{9, 0, 0, 0, 9, 0, 6, 9}},
		// all of it goes past 2^32: T is -1 four times, and nought of constant
		{ones, 64, full, State{full - 5, full, full, full, full - 4, full, full, full}},
	} {
		if got := Round(x.s, x.k, x.w); got != x.want {
			t.Errorf("Round of %x, %d, %x: %x, not %x", x.s, x.k, x.w, got, x.want)
		}
		if back := Unround(x.want, x.k, x.w); back != x.s {
			t.Errorf("Unround of %x, %d, %x: %x, not %x", x.want, x.k, x.w, back, x.s)
		}
	}
}

// P4.3
func TestRound(t *testing.T) {
	for _, s := range states() {
		for _, k := range places() {
			for _, w := range words() {
				if got, want := Round(s, k, w), round(s, Constant(k), w); got != want {
					t.Fatalf("Round of %x, %d, %x: %x, not %x", s, k, w, got, want)
				}
			}
		}
	}
}

// P4.3, P4.5: each round may be undone, and what was undone done again.
func TestUnround(t *testing.T) {
	for _, s := range states() {
		for _, k := range places() {
			for _, w := range words() {
				if back := Unround(Round(s, k, w), k, w); back != s {
					t.Fatalf("Unround behind Round of %x, %d, %x: %x", s, k, w, back)
				}
				if again := Round(Unround(s, k, w), k, w); again != s {
					t.Fatalf("Round behind Unround of %x, %d, %x: %x", s, k, w, again)
				}
			}
		}
	}
}

// P4.5: all rounds of a block are undone, from what comes of a state back to it.
func TestBack(t *testing.T) {
	for _, b := range blocks() {
		w, _ := Words(b)
		next, _ := Next(First(), b)
		for i, x := range First() {
			next[i] -= x
		}
		for k := 63; k >= 0; k-- {
			next = Unround(next, k, w[k])
		}
		if next != First() {
			t.Errorf("all rounds of %x, undone: %x", b, next)
		}
	}
}

// P4.4
func TestNext(t *testing.T) {
	picked := slices.Concat(states()[:8], states()[250:280])
	for _, s := range picked {
		for _, b := range blocks() {
			was := s
			got, e := Next(s, b)
			if want := byLibrary(t, s, b); e != api.OK || got != want {
				t.Fatalf("Next of %x by %x: %x, %v, not %x", s, b, got, e, want)
			}
			if s != was {
				t.Fatalf("Next changed %x to %x", was, s)
			}
		}
	}
}

// P4.4: it is 64 rounds, then each word and the state's own together.
func TestNextByRounds(t *testing.T) {
	for _, s := range states() {
		w, _ := Words(abc)
		want := s
		for k := range 64 {
			want = Round(want, k, w[k])
		}
		for i := range want {
			want[i] = together(want[i], s[i])
		}
		if got, e := Next(s, abc); e != api.OK || got != want {
			t.Fatalf("Next of %x: %x, %v, not %x", s, got, e, want)
		}
	}
}

// P4.4
func TestNextWrong(t *testing.T) {
	for _, text := range wrong() {
		for _, s := range states()[:4] {
			if got, e := Next(s, text); e != api.ErrArg || got != (State{}) {
				t.Errorf("Next of %x by %d bytes: %x, %v", s, len(text), got, e)
			}
		}
	}
}

// P4.6: each window of 16 words tells all 64, those ahead of it and those behind.
func TestWordsHangTogether(t *testing.T) {
	for _, b := range blocks() {
		w, _ := Words(b)
		for from := range 49 {
			told := make([]uint32, 64)
			copy(told[from:], w[from:from+16])
			for i := from + 16; i < 64; i++ {
				told[i] = together(told[i-16], s0(told[i-15]), told[i-7], s1(told[i-2]))
			}
			for i := from - 1; i >= 0; i-- {
				told[i] = less(told[i+16], s0(told[i+1]), told[i+9], s1(told[i+14]))
			}
			if !slices.Equal(told, w) {
				t.Fatalf("words of %x from the 16 from %d on: %x, not %x", b, from, told, w)
			}
		}
	}
}

// P4.7
func TestKnown(t *testing.T) {
	for _, x := range []struct {
		block string
		want  State
	}{
		{abc, State{0xba7816bf, 0x8f01cfea, 0x414140de, 0x5dae2223, 0xb00361a3, 0x96177a9c, 0xb410ff61, 0xf20015ad}},
		{"\x80" + strings.Repeat("\x00", 63), State{0xe3b0c442, 0x98fc1c14, 0x9afbf4c8, 0x996fb924, 0x27ae41e4, 0x649b934c, 0xa495991b, 0x7852b855}},
	} {
		if got, e := Next(First(), x.block); e != api.OK || got != x.want {
			t.Errorf("Next of the first state by %x: %x, %v", x.block, got, e)
		}
	}
}
