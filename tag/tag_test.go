package tag

import (
	"crypto/hmac"
	"crypto/sha256"
	"encoding/binary"
	"math"
	"math/big"
	"math/rand/v2"
	"strings"
	"testing"
	"unicode/utf8"
	"unsafe"

	"paymaster/api"
	"paymaster/sha"
)

const (
	top = 1<<64 - 1
	// rising are the bytes 1 to 16.
	rising = "\x01\x02\x03\x04\x05\x06\x07\x08\x09\x0a\x0b\x0c\x0d\x0e\x0f\x10"
)

func num(hi, lo uint64) api.U128 { return api.U128{Hi: hi, Lo: lo} }

// beside are the runes next to those that may stand in an Id, and don't themselves; about 161 too.
const beside = "`{@[/:,^\x00\x1f \x7f\u0080\u009f\u00a0"

// allowed are the first and last runes of all that may stand in an Id, and some between.
const allowed = "amzAMZ059._-\u00a1\u00a2ä\u07ff\u0800€日\ud7ff\ue000\ufffd\uffff\U00010000🙂\U0010ffff"

// noRunes are bytes that are no rune's: cut short, too long, of a surrogate, of more than the greatest rune, none at all.
var noRunes = []string{"\x80", "\xbf", "\xc0", "\xc1", "\xc3", "\xf5", "\xff", "\xfe", "\xc0\x80", "\xc1\xa1", "\xe2\x82", "\xe2\x82x", "\xe0\x81\xa1", "\xf0\x80\x81\xa1", "\xf0\x9f\x99", "\xed\xa0\x80", "\xed\xbf\xbf", "\xf4\x90\x80\x80", "\xc3\xc3\xa4"}

// ids are such as are Ids.
func ids() []string {
	l := []string{"a", "b", "ab", "alice", "Bob", "x.y_z-0", "007", "-", ".", "_", "ä", "日本語", "a\u0308"}
	for _, r := range allowed {
		for _, n := range []int{1, 2, api.MaxId - 1, api.MaxId} {
			l = append(l, strings.Repeat(string(r), n))
		}
	}
	return append(l, strings.Repeat("aé€🙂", api.MaxId/4))
}

// others are texts that are no Ids.
func others() []string {
	l := []string{"", "a b", " a", "a ", "a\n", "a/b", "a\x00", "#a", "a,b", "a:b", "a+b", "(a)", "a\u00a0b"}
	for _, r := range allowed {
		for _, n := range []int{api.MaxId + 1, api.MaxId + 2, 10 * api.MaxId} {
			l = append(l, strings.Repeat(string(r), n))
		}
	}
	for _, r := range beside {
		l = append(l, string(r), "a"+string(r), string(r)+"a", "a"+string(r)+"a", strings.Repeat("a", api.MaxId-1)+string(r))
	}
	for _, s := range noRunes {
		l = append(l, s, "a"+s, s+"a", "日"+s+"日", strings.Repeat("a", api.MaxId-1)+s, strings.Repeat("a", api.MaxId)+s)
	}
	return l
}

// picked tells a text of n bytes that chance (always the same one) picks.
func picked(n int) string {
	r := rand.New(rand.NewPCG(7, uint64(n)))
	b := make([]byte, n)
	for i := range b {
		b[i] = byte(r.Uint32())
	}
	return string(b)
}

// salts are such as may be: short ones, the longest, of bytes that begin other texts, or are no rune's.
func salts() []string {
	return []string{"", "s", "\x00", "\x01", "\x02", "\x00\x00", "\xff", "ä", picked(15), picked(16), picked(17), picked(api.MaxSalt - 1), picked(api.MaxSalt), strings.Repeat("\x00", api.MaxSalt)}
}

// balances are numbers with bits in each half, in none, in all.
func balances() []api.U128 {
	return []api.U128{{}, num(0, 1), num(0, 5), num(0, top), num(1, 0), num(1<<63, 0), num(0x0102030405060708, 0x090a0b0c0d0e0f10), num(top, top-1), num(top, top)}
}

// leaves are such as may be.
func leaves() []api.Leaf {
	var l []api.Leaf
	for i, salt := range salts() {
		l = append(l, api.Leaf{Pad: true, Salt: salt})
		for j, id := range ids() {
			l = append(l, api.Leaf{Id: id, Salt: salt, Balance: balances()[(i+j)%len(balances())]})
		}
	}
	for _, b := range balances() {
		l = append(l, api.Leaf{Id: "a", Salt: "s", Balance: b})
	}
	return l
}

// wrong are leaves that may not be.
func wrong() []api.Leaf {
	long := picked(api.MaxSalt + 1)
	l := []api.Leaf{
		{}, {Salt: "s"}, {Balance: num(0, 5)}, {Salt: picked(16), Balance: num(top, top)},
		{Pad: true, Id: "a"}, {Pad: true, Id: "a", Salt: "s"}, {Pad: true, Id: " "}, {Pad: true, Id: "\xff"}, {Pad: true, Id: "a", Balance: num(0, 1)},
		{Pad: true, Balance: num(0, 1)}, {Pad: true, Balance: num(1, 0)}, {Pad: true, Salt: "s", Balance: num(top, top)},
		{Pad: true, Salt: long}, {Id: "a", Salt: long}, {Id: "a", Salt: long, Balance: num(0, 1)}, {Id: "a", Salt: picked(255)}, {Id: "a", Salt: picked(256)}, {Pad: true, Salt: picked(256)}, {Pad: true, Salt: picked(1 << 16)},
	}
	for _, id := range others() {
		l = append(l, api.Leaf{Id: id}, api.Leaf{Id: id, Salt: "s", Balance: num(0, 5)})
	}
	return l
}

// bytesOf tells a number's bytes, by arithmetic that isn't the program's.
func bytesOf(a api.U128) string {
	n := new(big.Int).Lsh(new(big.Int).SetUint64(a.Hi), 64)
	return string(n.Or(n, new(big.Int).SetUint64(a.Lo)).FillBytes(make([]byte, 16)))
}

// laid tells a leaf's text by the document's words, whether it may be or not.
func laid(l api.Leaf) string {
	b := []byte{0}
	if l.Pad {
		b[0] = 2
	} else {
		b = append(b, byte(len(l.Id)))
		b = append(b, l.Id...)
	}
	b = append(b, byte(len(l.Salt)))
	b = append(b, l.Salt...)
	if !l.Pad {
		b = append(b, bytesOf(l.Balance)...)
	}
	return string(b)
}

// digested tells a digest by a SHA-256 that isn't the program's.
func digested(text string) string {
	d := sha256.Sum256([]byte(text))
	return string(d[:])
}

// library tells the mac by an HMAC that isn't the program's.
func library(key, text string) string {
	m := hmac.New(sha256.New, []byte(key))
	m.Write([]byte(text))
	return string(m.Sum(nil))
}

// eight tells a number's eight bytes, the greatest first.
func eight(n uint64) string { return string(binary.BigEndian.AppendUint64(nil, n)) }

// seeds are short ones, those about a key's block, and one past MaxSeed.
func seeds() []string {
	return []string{"", "k", "seed", "\x00", "ä", "\xff", picked(32), picked(63), picked(64), picked(65), picked(200)}
}

// P7.1
func TestMayId(t *testing.T) {
	for _, s := range ids() {
		if !MayId(s) {
			t.Errorf("MayId(%q): no", s)
		}
	}
	for _, s := range others() {
		if MayId(s) {
			t.Errorf("MayId(%q): yes", s)
		}
	}
	for n := range 3 * api.MaxId {
		for _, r := range "a-é€🙂" {
			if got, want := MayId(strings.Repeat(string(r), n)), n >= 1 && n <= api.MaxId; got != want {
				t.Errorf("MayId of %d times %c: %v", n, r, got)
			}
		}
	}
	if MayId(strings.Repeat("a", 1<<20)) || MayId(strings.Repeat("\xff", 1<<20)) {
		t.Error("MayId of a long text: yes")
	}
}

// runeMay tells whether the rune may stand in an Id, by a list of all below 161.
func runeMay(r rune) bool {
	return r > 160 || strings.ContainsRune("abcdefghijklmnopqrstuvwxyzABCDEFGHIJKLMNOPQRSTUVWXYZ0123456789._-", r)
}

// P7.1: each rune there is, alone, and behind others.
func TestMayIdOfEachRune(t *testing.T) {
	for r := range rune(utf8.MaxRune + 1) {
		if !utf8.ValidRune(r) {
			continue
		}
		if s := string(r); MayId(s) != runeMay(r) || MayId("a€"+s) != runeMay(r) {
			t.Fatalf("MayId of %U: %v", r, MayId(s))
		}
	}
}

// P7.1: each one byte, and each two and three of which the first may begin a rune, with the marks of one cut short.
func TestMayIdOfEachByte(t *testing.T) {
	// Of what chance makes of bytes, an Id has only whole runes, each of which may stand in one.
	may := func(s string) bool {
		n := 0
		for rest := s; rest != ""; n++ {
			r, size := utf8.DecodeRuneInString(rest)
			if r == utf8.RuneError && size == 1 || !runeMay(r) {
				return false
			}
			rest = rest[size:]
		}
		return n > 0 && n <= 24
	}
	var two [2]byte
	for n := range 1 << 16 {
		binary.BigEndian.PutUint16(two[:], uint16(n))
		for _, s := range []string{string(two[:]), string(two[1:]), string(two[:]) + "\x80", "a" + string(two[:]) + "\xbf\xbf"} {
			if MayId(s) != may(s) {
				t.Fatalf("MayId(%q): %v", s, MayId(s))
			}
		}
	}
}

// P7.1
func TestMayWidth(t *testing.T) {
	for w := -300; w < 300; w++ {
		if want := w >= 1 && w <= 32; MayWidth(w) != want {
			t.Errorf("MayWidth(%d): %v", w, !want)
		}
	}
	for _, w := range []int{math.MinInt, math.MinInt32, 1 << 8, 1<<8 + 1, 1 << 16, 1<<32 + 1, math.MaxInt} {
		if MayWidth(w) {
			t.Errorf("MayWidth(%d): yes", w)
		}
	}
}

// P7.1
func TestMayLeaf(t *testing.T) {
	for _, l := range leaves() {
		if !MayLeaf(l) {
			t.Errorf("MayLeaf(%+v): no", l)
		}
	}
	for _, l := range wrong() {
		if MayLeaf(l) {
			t.Errorf("MayLeaf(%+v): yes", l)
		}
	}
	for n := range 300 {
		want := n <= 32
		if MayLeaf(api.Leaf{Pad: true, Salt: picked(n)}) != want || MayLeaf(api.Leaf{Id: "a", Salt: picked(n)}) != want {
			t.Errorf("MayLeaf, of a salt of %d bytes: %v", n, !want)
		}
	}
}

// P7.2: the examples.
func TestExamples(t *testing.T) {
	noughts := strings.Repeat("\x00", 15)
	for text, l := range map[string]api.Leaf{
		"\x02\x00":                          {Pad: true},
		"\x02\x03abc":                       {Pad: true, Salt: "abc"},
		"\x00\x01a\x01s" + noughts + "\x05": {Id: "a", Salt: "s", Balance: num(0, 5)},
		"\x00\x01a\x00" + noughts + "\x00":  {Id: "a"},
		"\x00\x02ä\x00\x01" + noughts:       {Id: "ä", Balance: num(1<<56, 0)},
		"\x00\x03日\x02\x00\x02" + rising:    {Id: "日", Salt: "\x00\x02", Balance: num(0x0102030405060708, 0x090a0b0c0d0e0f10)},
	} {
		if s := LeafText(l); s != text {
			t.Errorf("LeafText(%+v): %q, not %q", l, s, text)
		}
		if got, is := Read(text); got != l || !is {
			t.Errorf("Read(%q): %+v, %v", text, got, is)
		}
	}
	for _, s := range []string{"a b", "", strings.Repeat("a", 25)} {
		if MayId(s) {
			t.Errorf("MayId(%q): yes", s)
		}
	}
}

// P7.2
func TestLeafText(t *testing.T) {
	for _, l := range leaves() {
		if s := LeafText(l); s != laid(l) {
			t.Fatalf("LeafText(%+v): %q, not %q", l, s, laid(l))
		}
	}
	for _, l := range wrong() {
		if s := LeafText(l); s != "" {
			t.Errorf("LeafText(%+v): %q", l, s)
		}
	}
}

// P7.2: digests of any length are taken as they are.
func TestNodeText(t *testing.T) {
	for _, a := range []string{"", "a", "ab", "\x00", "\xff", picked(31), picked(32), picked(33), picked(255), picked(256), picked(5000)} {
		for _, b := range []string{"", "c", "cd", "\x01", picked(32), picked(33), picked(300)} {
			for i, x := range balances() {
				y := balances()[len(balances())-1-i]
				want := "\x01" + a + bytesOf(x) + b + bytesOf(y)
				if s := NodeText(api.Node{Hash: a, Sum: x}, api.Node{Hash: b, Sum: y}); s != want {
					t.Fatalf("NodeText of %q, %v and %q, %v: %q, not %q", a, x, b, y, s, want)
				}
			}
		}
	}
}

// widths are all that may be, and some about them.
func widths() []int {
	l := []int{math.MinInt, math.MinInt32, 255, 256, 257, 1<<32 + 1, math.MaxInt}
	for w := -3; w < 70; w++ {
		l = append(l, w)
	}
	return l
}

// P7.2, P7.7
func TestDigest(t *testing.T) {
	for _, text := range []string{"", "a", "abc", "\x02\x00", "日本語", "\xff", picked(55), picked(56), picked(64), picked(65), picked(5000)} {
		whole := digested(text)
		for _, w := range widths() {
			want := ""
			if w >= 1 && w <= 32 {
				want = whole[:w]
			}
			if d := Digest(w, text); d != want {
				t.Errorf("Digest(%d, %q): %x, not %x", w, text, d, want)
			}
		}
		if d := Digest(32, text); d != sha.Sum(text) {
			t.Errorf("Digest(32, %q): %x, not %x", text, d, sha.Sum(text))
		}
		for w := 2; w <= 32; w++ {
			if less := Digest(w-1, text); !strings.HasPrefix(Digest(w, text), less) || len(less) != w-1 {
				t.Errorf("Digest(%d, %q): %x", w-1, text, less)
			}
		}
	}
	if d := Digest(3, "abc"); d != "\xba\x78\x16" {
		t.Errorf("Digest(3, abc): %x", d)
	}
}

// P7.2, P7.7
func TestLeafNode(t *testing.T) {
	for i, l := range leaves() {
		whole := digested(laid(l))
		for _, w := range []int{1, 2, 31, 32, 1 + i%32} {
			if n, want := LeafNode(w, l), (api.Node{Hash: whole[:w], Sum: l.Balance}); n != want {
				t.Fatalf("LeafNode(%d, %+v): %+v, not %+v", w, l, n, want)
			}
		}
	}
	for _, l := range wrong() {
		for _, w := range []int{0, 1, 4, 32, 33} {
			if n := LeafNode(w, l); n != (api.Node{}) {
				t.Errorf("LeafNode(%d, %+v): %+v", w, l, n)
			}
		}
	}
	for _, w := range widths() {
		for _, l := range []api.Leaf{{Id: "a", Salt: "s", Balance: num(0, 5)}, {Pad: true, Salt: "s"}} {
			if n := LeafNode(w, l); (w < 1 || w > 32) != (n == api.Node{}) {
				t.Errorf("LeafNode(%d, %+v): %+v", w, l, n)
			}
		}
	}
}

// P7.3
func TestSalt(t *testing.T) {
	seen := map[string][2]string{}
	for _, seed := range seeds() {
		for _, id := range ids() {
			salt := Salt(seed, id)
			if want := library(seed, "\x03"+id)[:16]; salt != want {
				t.Fatalf("Salt(%q, %q): %x, not %x", seed, id, salt, want)
			}
			// A key of noughts alone has the macs of the empty one.
			own := [2]string{strings.TrimRight(seed, "\x00"), id}
			if other, was := seen[salt]; was && other != own {
				t.Errorf("Salt of %q and of %q: the same", own, other)
			}
			seen[salt] = own
		}
	}
}

// positions are small ones, those whose bytes are unlike, and the greatest.
func positions() []uint64 {
	l := []uint64{0, 1, 2, 3, 255, 256, 1<<10 - 1, 1 << 10, 0x0102030405060708, 0x0807060504030201, 1<<63 - 1, 1 << 63, top - 1, top}
	for k := range 64 {
		l = append(l, 1<<k)
	}
	return l
}

// P7.3
func TestPad(t *testing.T) {
	for _, seed := range seeds() {
		for _, p := range positions() {
			want := library(seed, "\x04"+eight(p))[:16]
			if salt := PadSalt(seed, p); salt != want {
				t.Fatalf("PadSalt(%q, %d): %x, not %x", seed, p, salt, want)
			}
			if l := Pad(seed, p); l != (api.Leaf{Pad: true, Salt: want}) || !MayLeaf(l) {
				t.Fatalf("Pad(%q, %d): %+v", seed, p, l)
			}
		}
	}
}

// P7.3
func TestFirst(t *testing.T) {
	for _, seed := range seeds() {
		for _, id := range ids() {
			n := binary.BigEndian.Uint64([]byte(library(seed, "\x05"+id)))
			for height := 0; height <= 63; height++ {
				if f, want := First(seed, id, height), n&(1<<height-1); f != want {
					t.Fatalf("First(%q, %q, %d): %d, not %d", seed, id, height, f, want)
				}
			}
		}
	}
	for _, height := range []int{math.MinInt, -64, -2, -1, 64, 65, 128, 1 << 32, math.MaxInt} {
		for _, id := range []string{"a", "b", "alice", "日本語"} {
			if f := First("k", id, height); f != 0 {
				t.Errorf("First(k, %s, %d): %d", id, height, f)
			}
		}
	}
}

// P7.3: what one seed makes of a text for one thing isn't what it makes of it for another.
func TestApart(t *testing.T) {
	for _, seed := range seeds() {
		id := "abcdefgh"
		salt, pad := Salt(seed, id), PadSalt(seed, binary.BigEndian.Uint64([]byte(id)))
		if salt == pad || First(seed, id, 63) == binary.BigEndian.Uint64([]byte(salt))&(1<<63-1) || First(seed, id, 63) == binary.BigEndian.Uint64([]byte(pad))&(1<<63-1) {
			t.Errorf("by %q: the same for two things", seed)
		}
	}
}

// parsed tells the leaf whose text it is, by the document's words, byte by byte.
func parsed(text string) (api.Leaf, bool) {
	none := api.Leaf{}
	b := []byte(text)
	piece := func() (string, bool) {
		if len(b) < 1 || len(b) < 1+int(b[0]) {
			return "", false
		}
		s := string(b[1 : 1+int(b[0])])
		b = b[1+len(s):]
		return s, true
	}
	if len(b) == 0 {
		return none, false
	}
	kind := b[0]
	b = b[1:]
	var id, salt string
	ok := true
	if kind == 0 {
		if id, ok = piece(); !ok || !MayId(id) {
			return none, false
		}
	}
	if salt, ok = piece(); !ok || len(salt) > 32 {
		return none, false
	}
	switch {
	case kind == 2 && len(b) == 0:
		return api.Leaf{Pad: true, Salt: salt}, true
	case kind == 0 && len(b) == 16:
		return api.Leaf{Id: id, Salt: salt, Balance: num(binary.BigEndian.Uint64(b), binary.BigEndian.Uint64(b[8:]))}, true
	}
	return none, false
}

// reads asks whether a text is read as the document has it, and there and back.
func reads(t *testing.T, text string) {
	t.Helper()
	l, is := Read(text)
	want, isOne := parsed(text)
	if l != want || is != isOne {
		t.Fatalf("Read(%q): %+v, %v, not %+v, %v", text, l, is, want, isOne)
	}
	if is && (!MayLeaf(l) || LeafText(l) != text) {
		t.Fatalf("Read(%q): %+v, of another text: %q", text, l, LeafText(l))
	}
}

// P7.4, P7.6
func TestRead(t *testing.T) {
	for _, l := range leaves() {
		got, is := Read(LeafText(l))
		if got != l || !is {
			t.Fatalf("Read of %+v's text: %+v, %v", l, got, is)
		}
		reads(t, laid(l))
	}
	for _, l := range wrong() {
		// What such a leaf would have as its text is none's: its lengths fit into a byte, or come round.
		reads(t, laid(l))
		if len(l.Id) < 256 && len(l.Salt) < 256 && !l.Pad {
			if got, is := Read(laid(l)); got != (api.Leaf{}) || is {
				t.Errorf("Read of what isn't %+v's text: %+v, %v", l, got, is)
			}
		}
	}
}

// P7.4, P7.6: a byte less, one more, another one, at each place; and cut, and doubled.
func TestReadWhatIsNearlyOne(t *testing.T) {
	for i, l := range leaves() {
		// Of most long Ids there is nothing to see that a short one hasn't.
		if n := len(l.Id); n > 4 && n < 4*api.MaxId {
			continue
		}
		text := LeafText(l)
		for at := range len(text) + 1 {
			reads(t, text[:at])
			reads(t, text[at:])
			for _, b := range []string{"\x00", "\x01", "a", "\x02", "\x10", "\x21", "\x80", "\xff"} {
				reads(t, text[:at]+b+text[at:])
				if at < len(text) {
					reads(t, text[:at]+b+text[at+1:])
					reads(t, text[:at]+text[at+1:])
				}
			}
		}
		reads(t, text+text)
		for _, more := range []string{"\x00", "x", "\x00\x00", picked(16), LeafText(leaves()[i/2])} {
			if got, is := Read(text + more); got != (api.Leaf{}) || is {
				t.Fatalf("Read(%q): %+v", text+more, got)
			}
		}
		if got, is := Read(text[:len(text)-1]); got != (api.Leaf{}) || is {
			t.Fatalf("Read(%q): %+v", text[:len(text)-1], got)
		}
	}
}

// P7.4: each first byte.
func TestReadOfEachKind(t *testing.T) {
	for _, l := range []api.Leaf{{Pad: true}, {Pad: true, Salt: "salt"}, {Id: "a", Salt: "s", Balance: num(0, 5)}, {Id: "bc"}} {
		text := LeafText(l)
		for b := range 256 {
			other := string([]byte{byte(b)}) + text[1:]
			if got, is := Read(other); is != (other == text) || !is && got != (api.Leaf{}) {
				t.Errorf("Read(%q): %+v, %v", other, got, is)
			}
		}
	}
}

// P7.4: all lengths, that fit or don't.
func TestReadOfEachLength(t *testing.T) {
	for first := range 256 {
		for _, n := range []int{0, 1, 23, 24, 25, 32, 33, 48, 96, 97, 255, 256, 300} {
			length := string([]byte{byte(first)})
			reads(t, "\x02"+length+picked(n))
			reads(t, "\x00"+length+strings.Repeat("a", n))
			reads(t, "\x00"+length+strings.Repeat("a", n)+"\x00"+picked(16))
			reads(t, "\x00\x01a"+length+picked(n))
			reads(t, "\x00\x01a"+length+picked(n)+picked(16))
		}
	}
}

// P7.4, P7.6: all texts of two bytes, and of chance.
func TestReadOfAny(t *testing.T) {
	reads(t, "")
	for n := range 1 << 16 {
		b := []byte{byte(n >> 8), byte(n)}
		reads(t, string(b))
		reads(t, string(b[:1]))
		reads(t, string(b)+"a")
	}
	r := rand.New(rand.NewPCG(7, 4))
	for range 50000 {
		b := make([]byte, r.IntN(60))
		for i := range b {
			b[i] = "\x00\x01\x02\x03\x10ab\xc3\xa4\xff"[r.IntN(10)]
		}
		reads(t, string(b))
	}
	reads(t, "\x00"+strings.Repeat("\x01a", 1<<20))
	reads(t, "\x02"+strings.Repeat("\x02", 1<<20))
}

// P7.4: what is read is no piece of the caller's text, which would be kept with it.
func TestReadOwn(t *testing.T) {
	text := LeafText(api.Leaf{Id: "alice", Salt: "salt", Balance: num(0, 5)})
	l, _ := Read(text)
	from := uintptr(unsafe.Pointer(unsafe.StringData(text)))
	for _, s := range []string{l.Id, l.Salt} {
		if at := uintptr(unsafe.Pointer(unsafe.StringData(s))); at >= from && at < from+uintptr(len(text)) {
			t.Errorf("Read: %q of the caller's memory", s)
		}
	}
}

// P7.5: of leaves.
func TestUnlikeLeaves(t *testing.T) {
	seen := map[string]api.Leaf{}
	for _, l := range leaves() {
		text := LeafText(l)
		if other, was := seen[text]; was && other != l {
			t.Errorf("texts of %+v and %+v: the same", l, other)
		}
		seen[text] = l
	}
	// What ends one thing of a leaf isn't what begins the next one.
	for _, pair := range [][2]api.Leaf{
		{{Id: "ab", Salt: "c"}, {Id: "a", Salt: "bc"}},
		{{Id: "a", Salt: "s"}, {Id: "a", Salt: "s\x00"}},
		{{Id: "a"}, {Pad: true}},
		{{Pad: true, Salt: "a"}, {Id: "a"}},
		{{Pad: true}, {Pad: true, Salt: "\x00"}},
		{{Id: "a", Balance: num(0, 1)}, {Id: "a", Balance: num(1, 0)}},
		{{Id: "A"}, {Id: "a"}},
		{{Id: "\u00e4"}, {Id: "a\u0308"}},
	} {
		if LeafText(pair[0]) == LeafText(pair[1]) {
			t.Errorf("texts of %+v and %+v: the same", pair[0], pair[1])
		}
	}
}

// P7.5: no leaf's text is a node's; of one width, unlike nodes have unlike ones.
func TestUnlikeNodes(t *testing.T) {
	for w := 1; w <= 32; w++ {
		var below []api.Node
		for i, b := range balances() {
			below = append(below, LeafNode(w, api.Leaf{Id: "a", Balance: b}), api.Node{Hash: strings.Repeat("\x00", w), Sum: b}, api.Node{Hash: strings.Repeat("\xff", w), Sum: b}, api.Node{Hash: strings.Repeat("\x00\x02", w)[:w], Sum: balances()[(i+1)%len(balances())]})
		}
		seen := map[string][2]api.Node{}
		for _, l := range below {
			for _, r := range below {
				text, own := NodeText(l, r), [2]api.Node{l, r}
				if other, was := seen[text]; was && other != own {
					t.Fatalf("texts of %+v and %+v: the same", own, other)
				}
				seen[text] = own
				if leaf, is := Read(text); is || leaf != (api.Leaf{}) {
					t.Fatalf("Read of %+v's text: %+v", own, leaf)
				}
			}
		}
		for _, l := range leaves() {
			if other, was := seen[LeafText(l)]; was {
				t.Fatalf("texts of %+v and %+v: the same", l, other)
			}
		}
	}
	// With digests of no length, or of any, the first byte alone tells them apart.
	for _, h := range []string{"", "\x00", "a", picked(100)} {
		if leaf, is := Read(NodeText(api.Node{Hash: h}, api.Node{Hash: h})); is || leaf != (api.Leaf{}) {
			t.Errorf("Read of a node's text: %+v", leaf)
		}
	}
}

// The rules of all layers: nothing panics, whatever is handed in.
func TestWhateverIsHandedIn(t *testing.T) {
	for _, s := range append(others(), ids()...) {
		for _, w := range widths() {
			Digest(w, s)
			First(s, s, w)
			LeafNode(w, api.Leaf{Id: s, Salt: s})
		}
		Salt(s, s)
		PadSalt(s, top)
		Pad(s, 0)
		NodeText(api.Node{Hash: s}, api.Node{})
		Read(s)
	}
}
