package sha

import (
	"crypto/sha256"
	"encoding/binary"
	"encoding/hex"
	"math/big"
	"math/rand/v2"
	"strings"
	"testing"
	"unsafe"

	"paymaster/api"
	"paymaster/block"
)

// letters is FIPS 180-4's text of 56 letters.
const letters = "abcdbcdecdefdefgefghfghighijhijkijkljklmklmnlmnomnopnopq"

// edges are lengths at which a block ends, or a padding has just room, or hasn't.
var edges = []int{0, 1, 8, 9, 54, 55, 56, 57, 62, 63, 64, 65, 72, 118, 119, 120, 121, 127, 128, 129, 183, 184, 191, 192, 193, 4095, 4096, 4097, 1<<16 - 1, 1 << 16, 1<<16 + 1}

// known are texts whose digests all know.
var known = []struct{ text, digest string }{
	{"", "e3b0c44298fc1c149afbf4c8996fb92427ae41e4649b934ca495991b7852b855"},
	{"abc", "ba7816bf8f01cfea414140de5dae2223b00361a396177a9cb410ff61f20015ad"},
	{letters, "248d6a61d20638b8e5c026930c3e6039a33ce45964ff2167f6ecedd419db06c1"},
	{strings.Repeat("a", 1000000), "cdc76e5c9914fb9281a1c7e284d73e67f1809a48a497200e046d39ccc7112cd0"},
}

// picked tells a text of n bytes that chance (always the same one) picks.
func picked(n int) string {
	r := rand.New(rand.NewPCG(5, uint64(n)))
	b := make([]byte, n)
	for i := range b {
		b[i] = byte(r.Uint32())
	}
	return string(b)
}

// texts are all short ones' lengths and the edges, of picked bytes, of noughts, of bytes of 255, and some of more than one byte a rune.
func texts() []string {
	var l []string
	for n := range 300 {
		l = append(l, picked(n))
	}
	for _, n := range edges {
		l = append(l, picked(n), strings.Repeat("\x00", n), strings.Repeat("\xff", n))
	}
	return append(l, "ä", "日本語", strings.Repeat("é", 32), strings.Repeat("\xc3", 65))
}

// lengths are those of short texts, those at the edges, and those whose number of bits fills 8 bytes nearly, just, or more than once.
func lengths() []uint64 {
	var l []uint64
	for n := range uint64(300) {
		l = append(l, n)
	}
	for k := 9; k < 64; k++ {
		for _, by := range []uint64{0, 1, 7, 8, 9, 10, 55, 56, 57, 63, 64, 65} {
			l = append(l, 1<<k+by, 1<<k-by)
		}
	}
	for by := range uint64(130) {
		l = append(l, 1<<64-1-by)
	}
	return l
}

// library tells the digest by a SHA-256 that isn't this one.
func library(s string) string {
	d := sha256.Sum256([]byte(s))
	return string(d[:])
}

// taken tells a running one that took these pieces.
func taken(t *testing.T, pieces ...string) *Sha {
	t.Helper()
	h := New()
	for _, p := range pieces {
		if e := h.Write(p); e != api.OK {
			t.Fatalf("Write of %d bytes behind %d: %v", len(p), h.Len(), e)
		}
	}
	return h
}

// has asks whether a running one took just this text.
func has(t *testing.T, h *Sha, text string) {
	t.Helper()
	if h.Len() != uint64(len(text)) {
		t.Fatalf("Len: %d, not %d", h.Len(), len(text))
	}
	if d, e := h.Sum(); d != library(text) || e != api.OK {
		t.Fatalf("Sum of %d bytes: %x, %v", len(text), d, e)
	}
}

// P5.1
func TestSum(t *testing.T) {
	for _, s := range texts() {
		if d := Sum(s); d != library(s) {
			t.Errorf("Sum of %d bytes: %x, not %x", len(s), d, library(s))
		}
	}
}

// P5.1: the digest is what comes of the first state by the blocks of the padded text.
func TestSumByBlocks(t *testing.T) {
	for _, s := range texts() {
		padded := s + Padding(uint64(len(s)))
		state := block.First()
		for ; padded != ""; padded = padded[64:] {
			var e api.Errno
			if state, e = block.Next(state, padded[:64]); e != api.OK {
				t.Fatalf("%d bytes: %v", len(s), e)
			}
		}
		var want []byte
		for _, w := range state {
			want = binary.BigEndian.AppendUint32(want, w)
		}
		if d := Sum(s); d != string(want) {
			t.Errorf("Sum of %d bytes: %x, not %x", len(s), d, want)
		}
	}
}

// P5.1
func TestPadding(t *testing.T) {
	for n, want := range map[uint64]int{0: 64, 1: 63, 54: 10, 55: 9, 56: 72, 57: 71, 63: 65, 64: 64, 65: 63, 119: 9, 120: 72, 1<<64 - 9: 9, 1<<64 - 8: 72, 1<<64 - 1: 65} {
		if p := Padding(n); len(p) != want {
			t.Errorf("Padding of %d: %d bytes, not %d", n, len(p), want)
		}
	}
	for _, n := range lengths() {
		p := Padding(n)
		// Of 9 bytes at least and 72 at most there is one way alone to fill the last block.
		if len(p) < 9 || len(p) > 72 {
			t.Fatalf("Padding of %d: %d bytes", n, len(p))
		}
		bits := new(big.Int).Lsh(new(big.Int).SetUint64(n), 3)
		bits.And(bits, new(big.Int).SetUint64(1<<64-1))
		want := "\x80" + strings.Repeat("\x00", len(p)-9) + string(bits.FillBytes(make([]byte, 8)))
		if p != want {
			t.Errorf("Padding of %d: %x, not %x", n, p, want)
		}
	}
}

// P5.1: of the number of bits what 8 bytes hold, as worked out by hand.
func TestPaddingBits(t *testing.T) {
	for n, want := range map[uint64]string{
		0:         "\x00\x00\x00\x00\x00\x00\x00\x00",
		1:         "\x00\x00\x00\x00\x00\x00\x00\x08",
		55:        "\x00\x00\x00\x00\x00\x00\x01\xb8",
		56:        "\x00\x00\x00\x00\x00\x00\x01\xc0",
		1 << 29:   "\x00\x00\x00\x01\x00\x00\x00\x00",
		1 << 40:   "\x00\x00\x08\x00\x00\x00\x00\x00",
		1<<61 - 1: "\xff\xff\xff\xff\xff\xff\xff\xf8",
		1 << 61:   "\x00\x00\x00\x00\x00\x00\x00\x00",
		1<<61 + 3: "\x00\x00\x00\x00\x00\x00\x00\x18",
		1<<64 - 1: "\xff\xff\xff\xff\xff\xff\xff\xf8",
	} {
		if p := Padding(n); p[len(p)-8:] != want {
			t.Errorf("Padding of %d: ends with %x, not %x", n, p[len(p)-8:], want)
		}
	}
}

// P5.2
func TestNew(t *testing.T) {
	h := New()
	if h == nil {
		t.Fatal("New: nil")
	}
	has(t, h, "")
	h.Write("x")
	has(t, New(), "")
}

// P5.2
func TestWrite(t *testing.T) {
	for _, s := range texts() {
		has(t, taken(t, s), s)
	}
	h := New()
	for n, s := 0, picked(200); n < len(s); n++ {
		if e := h.Write(s[n : n+1]); e != api.OK {
			t.Fatal(e)
		}
		has(t, h, s[:n+1])
	}
}

// P5.2: what was taken is no piece of the caller's text, which would be kept with it.
func TestWriteKeepsNothing(t *testing.T) {
	for _, n := range []int{1, 63, 64, 65, 100} {
		s := picked(n)
		h := taken(t, s)
		from, to := uintptr(unsafe.Pointer(unsafe.StringData(s))), uintptr(n)
		if at := uintptr(unsafe.Pointer(unsafe.StringData(h.left))); h.left != "" && at-from < to {
			t.Errorf("Write of %d bytes: keeps the caller's text", n)
		}
	}
}

// P5.2: one may go on behind a digest.
func TestSumInTheMidst(t *testing.T) {
	for _, n := range []int{0, 1, 55, 56, 63, 64, 65, 128, 150} {
		s := picked(300)
		h := taken(t, s[:n])
		has(t, h, s[:n])
		has(t, h, s[:n])
		if e := h.Write(s[n:]); e != api.OK {
			t.Fatal(e)
		}
		has(t, h, s)
	}
}

// P5.2: no text is long enough for a test, so that the length taken is laid in.
func TestWriteTooLong(t *testing.T) {
	for _, left := range []uint64{0, 1, 3, 64, 100} {
		h := taken(t, "abc")
		h.taken = MaxLong - left
		before, _ := h.Sum()
		for _, more := range []uint64{1, 2, 64, 1 << 16} {
			if e := h.Write(strings.Repeat("x", int(left+more))); e != api.ErrLong {
				t.Errorf("%d left: Write of %d more: %v", left, more, e)
			}
			if d, e := h.Sum(); h.Len() != MaxLong-left || d != before || e != api.OK {
				t.Errorf("%d left: %d more were taken: %d bytes", left, more, h.Len())
			}
		}
		if e := h.Write(strings.Repeat("x", int(left))); e != api.OK || h.Len() != MaxLong {
			t.Errorf("%d left: Write of as many: %v, %d bytes", left, e, h.Len())
		}
		if e := h.Write(""); e != api.OK || h.Len() != MaxLong {
			t.Errorf("Write of nothing at the end: %v, %d bytes", e, h.Len())
		}
		if e := h.Write("x"); e != api.ErrLong || h.Len() != MaxLong {
			t.Errorf("Write of one byte at the end: %v, %d bytes", e, h.Len())
		}
	}
	if MaxLong != 4294967296 {
		t.Errorf("MaxLong: %d", uint64(MaxLong))
	}
}

// P5.2, P5.3: nil, and one that nobody made.
func TestNobodys(t *testing.T) {
	var zero Sha
	for name, h := range map[string]*Sha{"nil": nil, "zero": &zero, "new": new(Sha)} {
		for _, s := range []string{"", "a", picked(64), picked(200)} {
			if e := h.Write(s); e != api.ErrNil {
				t.Errorf("%s: Write of %d bytes: %v", name, len(s), e)
			}
			if n := h.Len(); n != 0 {
				t.Errorf("%s: Len: %d", name, n)
			}
			if d, e := h.Sum(); d != "" || e != api.ErrNil {
				t.Errorf("%s: Sum: %x, %v", name, d, e)
			}
			if c := h.Copy(); c != nil {
				t.Errorf("%s: Copy: %v", name, c)
			}
		}
	}
	if zero != (Sha{}) {
		t.Errorf("zero: %v", zero)
	}
}

// P5.3
func TestCopy(t *testing.T) {
	for _, n := range []int{0, 1, 55, 56, 63, 64, 65, 200} {
		s := picked(n)
		h := taken(t, s)
		c := h.Copy()
		if c == nil || c == h {
			t.Fatalf("%d bytes: Copy: %p of %p", n, c, h)
		}
		has(t, c, s)
		h.Write("behind the first, as far as one more block goes, and more than that")
		has(t, c, s)
		c.Write("d")
		has(t, c, s+"d")
		has(t, h, s+"behind the first, as far as one more block goes, and more than that")
		c.Write(picked(129))
		has(t, c, s+"d"+picked(129))
		has(t, h, s+"behind the first, as far as one more block goes, and more than that")
	}
	c := taken(t, "ab").Copy().Copy()
	c.Write("c")
	has(t, c, "abc")
}

// P5.3
func TestHex(t *testing.T) {
	var all []byte
	for i := range 256 {
		all = append(all, byte(i))
		if got, want := Hex(string(all[i:])), hex.EncodeToString(all[i:]); got != want {
			t.Errorf("Hex of %d: %s", i, got)
		}
	}
	for s, want := range map[string]string{"": "", "\x00": "00", "\xff": "ff", "\x00\xff": "00ff", "\x00\x0f\xa9": "000fa9", "ä": "c3a4", "abc": "616263", string(all): hex.EncodeToString(all)} {
		if got := Hex(s); got != want {
			t.Errorf("Hex of %q: %s, not %s", s, got, want)
		}
	}
	for _, s := range texts() {
		if Hex(s) != hex.EncodeToString([]byte(s)) {
			t.Errorf("Hex of %d bytes: %s", len(s), Hex(s))
		}
	}
}

// P5.4
func TestPieces(t *testing.T) {
	for n := range 140 {
		s := picked(n)
		for cut := range n + 1 {
			has(t, taken(t, s[:cut], s[cut:]), s)
			has(t, taken(t, "", s[:cut], "", s[cut:], ""), s)
		}
	}
	r := rand.New(rand.NewPCG(4, 5))
	for range 300 {
		s := picked(r.IntN(2000))
		h := New()
		for rest := s; rest != ""; {
			n := r.IntN(min(len(rest), 150) + 1)
			if e := h.Write(rest[:n]); e != api.OK {
				t.Fatal(e)
			}
			rest = rest[n:]
			// To ask changes nothing, at whatever place.
			if r.IntN(2) == 0 {
				has(t, h, s[:len(s)-len(rest)])
			}
		}
		has(t, h, s)
	}
}

// P5.4: to ask changes nothing of what is kept.
func TestAsking(t *testing.T) {
	for _, n := range edges {
		h := taken(t, picked(n))
		before := *h
		h.Sum()
		h.Len()
		h.Copy()
		if *h != before {
			t.Errorf("%d bytes: asking changed it", n)
		}
	}
}

// P5.5
func TestPadded(t *testing.T) {
	lengthsOf := map[string]uint64{}
	for _, n := range lengths() {
		p := Padding(n)
		if (n+uint64(len(p)))%64 != 0 {
			t.Errorf("%d bytes and a padding of %d: no whole blocks", n, len(p))
		}
		if n >= 1<<61 {
			// Bits that don't fit are left out.
			if p != Padding(n-1<<61) {
				t.Errorf("Padding of %d: %x, unlike that of 2^61 less", n, p)
			}
			continue
		}
		if other, ok := lengthsOf[p]; ok && other != n {
			t.Errorf("Paddings of %d and %d are the same: %x", n, other, p)
		}
		lengthsOf[p] = n
	}
}

// P5.6
func TestKnown(t *testing.T) {
	for _, x := range known {
		if d := Hex(Sum(x.text)); d != x.digest {
			t.Errorf("Sum of %.10q: %s, not %s", x.text, d, x.digest)
		}
		h := New()
		for s := x.text; s != ""; {
			n := min(len(s), 999)
			h.Write(s[:n])
			s = s[n:]
		}
		if d, e := h.Sum(); Hex(d) != x.digest || e != api.OK {
			t.Errorf("Sum of %.10q, piece by piece: %x, %v", x.text, d, e)
		}
	}
}
