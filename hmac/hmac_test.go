package hmac

import (
	"crypto/hmac"
	"crypto/sha256"
	"encoding/binary"
	"math"
	"math/rand/v2"
	"reflect"
	"strings"
	"testing"
	"unsafe"

	"paymaster/api"
	"paymaster/sha"
)

// known are macs that all know: those of RFC 4231 that aren't cut short, and that of nothing by nothing.
var known = []struct{ key, text, mac string }{
	{strings.Repeat("\x0b", 20), "Hi There", "b0344c61d8db38535ca8afceaf0bf12b881dc200c9833da726e9376c2e32cff7"},
	{"Jefe", "what do ya want for nothing?", "5bdcc146bf60754e6a042426089575c75a003f089d2739839dec58b964ec3843"},
	{strings.Repeat("\xaa", 20), strings.Repeat("\xdd", 50), "773ea91e36800e46854db8ebd09181a72959098b3ef8c122d9635514ced565fe"},
	{"\x01\x02\x03\x04\x05\x06\x07\x08\x09\x0a\x0b\x0c\x0d\x0e\x0f\x10\x11\x12\x13\x14\x15\x16\x17\x18\x19", strings.Repeat("\xcd", 50), "82558a389a443c0ea4cc819899f2083a85f0faa3e578f8077a2e3ff46729665b"},
	{strings.Repeat("\xaa", 131), "Test Using Larger Than Block-Size Key - Hash Key First", "60e431591ee0b67f0d8a26aacbf5b77f8e0bc6213728c5140546040f0ee37f54"},
	{strings.Repeat("\xaa", 131), "This is a test using a larger than block-size key and a larger than block-size data. The key needs to be hashed before being used by the HMAC algorithm.", "9b09ffa71b942fcb27635fbcd5b0e944bfdc63644f0713938a7f51535c3a35e2"},
	{"", "", "b613679a0814d9ec772f95d778c35fc5ff1697c493715653c6c712144292c5ad"},
}

// picked tells a text of n bytes that chance (always the same one) picks.
func picked(n int) string {
	r := rand.New(rand.NewPCG(6, uint64(n)))
	b := make([]byte, n)
	for i := range b {
		b[i] = byte(r.Uint32())
	}
	return string(b)
}

// keys are short ones, those at the edge of a block, longer ones, ones of noughts and of bytes of 255, and some of more than one byte a rune.
func keys() []string {
	l := []string{"Jefe", "ä", "日本語", strings.Repeat("é", 32), strings.Repeat("é", 33), "a\x00b"}
	for _, n := range []int{0, 1, 2, 16, 31, 32, 33, 62, 63, 64, 65, 66, 127, 128, 129, 1000} {
		l = append(l, picked(n), strings.Repeat("\x00", n), strings.Repeat("\xff", n), strings.Repeat("\x36", n), strings.Repeat("\x5c", n))
	}
	return l
}

// texts have lengths at which a block ends, or a padding has just room, or hasn't.
func texts() []string {
	l := []string{"what do ya want for nothing?", "日本語", "\xc3"}
	for _, n := range []int{0, 1, 8, 9, 54, 55, 56, 57, 63, 64, 65, 119, 120, 127, 128, 129, 4097} {
		l = append(l, picked(n), strings.Repeat("\x00", n))
	}
	return l
}

// library tells the mac by an HMAC that isn't this one.
func library(key, text string) string {
	m := hmac.New(sha256.New, []byte(key))
	m.Write([]byte(text))
	return string(m.Sum(nil))
}

// masked tells what each byte of the key's block, put together with that one, comes to, by the document's words.
func masked(key string, with byte) string {
	block := make([]byte, 64)
	copy(block, key)
	if len(key) > 64 {
		digest := sha256.Sum256([]byte(key))
		clear(block)
		copy(block, digest[:])
	}
	for i := range block {
		block[i] ^= with
	}
	return string(block)
}

// taken tells a running one by the key that took these pieces.
func taken(t *testing.T, key string, pieces ...string) *Mac {
	t.Helper()
	m := New(key)
	for _, p := range pieces {
		if e := m.Write(p); e != api.OK {
			t.Fatalf("Write of %d bytes: %v", len(p), e)
		}
	}
	return m
}

// has asks whether a running one by the key took just this text.
func has(t *testing.T, m *Mac, key, text string) {
	t.Helper()
	if mac, e := m.Sum(); mac != library(key, text) || e != api.OK {
		t.Fatalf("Sum of %d bytes by a key of %d: %x, %v", len(text), len(key), mac, e)
	}
}

// P6.1
func TestSum(t *testing.T) {
	for _, key := range keys() {
		for _, text := range texts() {
			if mac, want := Sum(key, text), library(key, text); mac != want {
				t.Fatalf("Sum of %d bytes by %x: %x, not %x", len(text), key, mac, want)
			}
		}
	}
	for n := range 200 {
		if mac, want := Sum(picked(n), "text"), library(picked(n), "text"); mac != want {
			t.Errorf("Sum by a key of %d bytes: %x, not %x", n, mac, want)
		}
	}
}

// P6.1: the macs that all know.
func TestKnown(t *testing.T) {
	for i, x := range known {
		mac := Sum(x.key, x.text)
		if sha.Hex(mac) != x.mac {
			t.Errorf("%d: Sum: %x, not %s", i, mac, x.mac)
		}
		if !Is(x.key, x.text, mac) {
			t.Errorf("%d: Is of the mac: no", i)
		}
		if got, e := taken(t, x.key, x.text).Sum(); got != mac || e != api.OK {
			t.Errorf("%d: Sum of a running one: %x, %v", i, got, e)
		}
	}
}

// P6.1
func TestBlock(t *testing.T) {
	for _, key := range keys() {
		if b := Block(key); b != masked(key, 0) {
			t.Errorf("Block of %x: %x, not %x", key, b, masked(key, 0))
		}
	}
	for n, want := range map[int]string{
		0:   strings.Repeat("\x00", 64),
		2:   "kk" + strings.Repeat("\x00", 62),
		63:  strings.Repeat("k", 63) + "\x00",
		64:  strings.Repeat("k", 64),
		65:  sha.Sum(strings.Repeat("k", 65)) + strings.Repeat("\x00", 32),
		128: sha.Sum(strings.Repeat("k", 128)) + strings.Repeat("\x00", 32),
	} {
		if b := Block(strings.Repeat("k", n)); b != want {
			t.Errorf("Block of %d bytes: %x, not %x", n, b, want)
		}
	}
}

// P6.1: a block is no piece of the caller's key, which would be kept with it.
func TestBlockOwn(t *testing.T) {
	key := picked(64)
	if b := Block(key); unsafe.StringData(b) == unsafe.StringData(key) {
		t.Error("Block: the caller's key")
	}
}

// P6.2
func TestNew(t *testing.T) {
	for _, key := range keys() {
		m := New(key)
		if m == nil {
			t.Fatal("New: nil")
		}
		has(t, m, key, "")
		m.Write("x")
		has(t, New(key), key, "")
	}
}

// P6.2
func TestWrite(t *testing.T) {
	for _, key := range keys() {
		for _, text := range texts() {
			has(t, taken(t, key, text), key, text)
		}
	}
}

// P6.2: one may go on behind a mac.
func TestSumInTheMidst(t *testing.T) {
	for _, key := range []string{"", "Jefe", picked(64), picked(65)} {
		for _, n := range []int{0, 1, 55, 56, 63, 64, 65, 128, 150} {
			text := picked(300)
			m := taken(t, key, text[:n])
			has(t, m, key, text[:n])
			has(t, m, key, text[:n])
			if e := m.Write(text[n:]); e != api.OK {
				t.Fatal(e)
			}
			has(t, m, key, text)
		}
	}
}

// P6.2: to ask changes nothing of what is kept.
func TestAsking(t *testing.T) {
	for _, n := range []int{0, 1, 55, 56, 63, 64, 65, 200} {
		m := taken(t, "key", picked(n))
		before := *m
		m.Sum()
		m.Copy()
		if *m != before {
			t.Errorf("%d bytes: asking changed it", n)
		}
	}
}

// lay lays in how many bytes the running digest took, as no text is long enough for a test.
func lay(m *Mac, n uint64) {
	f := reflect.ValueOf(&m.running.Sha).Elem().FieldByName("taken")
	*(*uint64)(unsafe.Pointer(f.UnsafeAddr())) = n
}

// P6.2
func TestWriteTooLong(t *testing.T) {
	const most = sha.MaxLong - 64
	for _, left := range []uint64{0, 1, 3, 63, 64, 65, 100} {
		m := taken(t, "key", "abc")
		// The digest took the key's 64 bytes ahead of the text.
		lay(m, 64+most-left)
		before, _ := m.Sum()
		for _, more := range []uint64{1, 2, 63, 64, 65, 1 << 16} {
			if e := m.Write(strings.Repeat("x", int(left+more))); e != api.ErrLong {
				t.Errorf("%d left: Write of %d more: %v", left, more, e)
			}
			if mac, e := m.Sum(); mac != before || e != api.OK {
				t.Errorf("%d left: %d more were taken: %x, %v", left, more, mac, e)
			}
		}
		if e := m.Write(strings.Repeat("x", int(left))); e != api.OK {
			t.Errorf("%d left: Write of as many: %v", left, e)
		}
		if e := m.Write(""); e != api.OK {
			t.Errorf("Write of nothing at the end: %v", e)
		}
		if mac, e := m.Sum(); left > 0 == (mac == before) || e != api.OK {
			t.Errorf("%d left: Sum at the end: %x, %v", left, mac, e)
		}
		if e := m.Write("x"); e != api.ErrLong {
			t.Errorf("Write of one byte at the end: %v", e)
		}
		if e := m.Copy().Write("x"); e != api.ErrLong {
			t.Errorf("Write of one byte at the end of a copy: %v", e)
		}
	}
}

// P6.2: nil, and one that nobody made.
func TestNobodys(t *testing.T) {
	var zero Mac
	for name, m := range map[string]*Mac{"nil": nil, "zero": &zero, "new": new(Mac)} {
		for _, text := range []string{"", "a", picked(64), picked(200)} {
			if e := m.Write(text); e != api.ErrNil {
				t.Errorf("%s: Write of %d bytes: %v", name, len(text), e)
			}
			if mac, e := m.Sum(); mac != "" || e != api.ErrNil {
				t.Errorf("%s: Sum: %x, %v", name, mac, e)
			}
			if c := m.Copy(); c != nil {
				t.Errorf("%s: Copy: %v", name, c)
			}
		}
	}
	if zero != (Mac{}) {
		t.Errorf("zero: %v", zero)
	}
}

// P6.2
func TestCopy(t *testing.T) {
	const behind = "behind the first, as far as one more block goes, and more than that"
	for _, key := range []string{"", "Jefe", picked(64), picked(65)} {
		for _, n := range []int{0, 1, 55, 56, 63, 64, 65, 200} {
			text := picked(n)
			m := taken(t, key, text)
			c := m.Copy()
			if c == nil || c == m {
				t.Fatalf("%d bytes: Copy: %p of %p", n, c, m)
			}
			has(t, c, key, text)
			m.Write(behind)
			has(t, c, key, text)
			c.Write("d")
			has(t, c, key, text+"d")
			has(t, m, key, text+behind)
			c.Write(picked(129))
			has(t, c, key, text+"d"+picked(129))
			has(t, m, key, text+behind)
		}
	}
	c := taken(t, "Jefe", "ab").Copy().Copy()
	c.Write("c")
	has(t, c, "Jefe", "abc")
}

// P6.3
func TestFirst(t *testing.T) {
	for _, key := range keys() {
		mac := library(key, "text")
		for n := -3; n < 70; n++ {
			want := mac[:max(0, min(n, 32))]
			if first := First(key, "text", n); first != want {
				t.Fatalf("First %d by %x: %x, not %x", n, key, first, want)
			}
		}
	}
	for n, want := range map[int]string{
		math.MinInt: "", -1: "", 0: "", 1: "\x5b", 3: "\x5b\xdc\xc1",
		32: Sum("Jefe", "what do ya want for nothing?"), 33: Sum("Jefe", "what do ya want for nothing?"), math.MaxInt: Sum("Jefe", "what do ya want for nothing?"),
	} {
		if first := First("Jefe", "what do ya want for nothing?", n); first != want {
			t.Errorf("First %d: %x, not %x", n, first, want)
		}
	}
}

// P6.3
func TestNumber(t *testing.T) {
	if n := Number("Jefe", "what do ya want for nothing?"); n != 0x5bdcc146bf60754e {
		t.Errorf("Number: %x", n)
	}
	for _, key := range keys() {
		for _, text := range texts() {
			if n, want := Number(key, text), binary.BigEndian.Uint64([]byte(library(key, text))); n != want {
				t.Fatalf("Number of %d bytes by %x: %x, not %x", len(text), key, n, want)
			}
		}
	}
}

// P6.3, P6.6: of all that is nearly the mac, it is itself alone.
func TestIs(t *testing.T) {
	for _, key := range keys() {
		mac := library(key, "text")
		if !Is(key, "text", mac) {
			t.Errorf("Is by %x: no", key)
		}
		for i := range mac {
			for _, by := range []byte{1, 0x80, 0xff} {
				b := []byte(mac)
				b[i] ^= by
				if Is(key, "text", string(b)) {
					t.Errorf("Is by %x, with byte %d changed: yes", key, i)
				}
			}
			if Is(key, "text", mac[:i]) || Is(key, "text", mac[i+1:]) {
				t.Errorf("Is by %x, cut at %d: yes", key, i)
			}
		}
		for _, wrong := range []string{mac + "\x00", mac + "x", "\x00" + mac, mac + mac, sha.Hex(mac), strings.Repeat("\x00", 32)} {
			if Is(key, "text", wrong) {
				t.Errorf("Is by %x of %x: yes", key, wrong)
			}
		}
		if Is(key, "texts", mac) || Is(key, "tex", mac) || Is(key, "", mac) || Is("other"+key, "text", mac) {
			t.Errorf("Is by %x, of another text, or by another key: yes", key)
		}
	}
}

// P6.4
func TestPieces(t *testing.T) {
	for n := range 140 {
		text := picked(n)
		for cut := range n + 1 {
			has(t, taken(t, "Jefe", text[:cut], text[cut:]), "Jefe", text)
		}
		has(t, taken(t, "Jefe", "", text[:n/2], "", text[n/2:], ""), "Jefe", text)
		has(t, taken(t, picked(n), strings.Split(text, "")...), picked(n), text)
	}
	r := rand.New(rand.NewPCG(4, 6))
	for range 300 {
		key, text := picked(r.IntN(150)), picked(r.IntN(2000))
		m := New(key)
		for rest := text; rest != ""; {
			n := r.IntN(min(len(rest), 150) + 1)
			if e := m.Write(rest[:n]); e != api.OK {
				t.Fatal(e)
			}
			rest = rest[n:]
			if r.IntN(2) == 0 {
				has(t, m, key, text[:len(text)-len(rest)])
			}
		}
		if mac, e := m.Sum(); mac != Sum(key, text) || e != api.OK {
			t.Fatalf("%d bytes, piece by piece, by a key of %d: %x, %v", len(text), len(key), mac, e)
		}
	}
}

// same asks whether two keys have the same macs, at once, piece by piece, and in part.
func same(t *testing.T, a, b string) {
	t.Helper()
	if Block(a) != Block(b) {
		t.Errorf("Block of %x and of %x: unlike", a, b)
	}
	for _, text := range []string{"", "text", picked(64), picked(200)} {
		mac := Sum(a, text)
		if mac != Sum(b, text) || !Is(b, text, mac) || Number(a, text) != Number(b, text) || First(a, text, 9) != First(b, text, 9) {
			t.Errorf("macs by %x and by %x: unlike", a, b)
		}
		if got, e := taken(t, b, text).Sum(); got != mac || e != api.OK {
			t.Errorf("mac of a running one by %x: %x, %v, not %x", b, got, e, mac)
		}
	}
}

// P6.5
func TestKeys(t *testing.T) {
	for _, key := range keys() {
		if len(key) > 64 {
			same(t, key, sha.Sum(key))
			same(t, key, sha.Sum(key)+strings.Repeat("\x00", 32))
			continue
		}
		for n := 0; len(key)+n <= 64; n++ {
			same(t, key, key+strings.Repeat("\x00", n))
		}
		// Past a block's 64 bytes noughts make another key.
		if longer := key + strings.Repeat("\x00", 65-len(key)); Sum(key, "text") == Sum(longer, "text") {
			t.Errorf("macs by %x, and with noughts past 64 bytes: the same", key)
		}
		// A key of no more than a block isn't made its digest.
		if Sum(key, "text") == Sum(sha.Sum(key), "text") {
			t.Errorf("macs by %x, and by its digest: the same", key)
		}
		if len(key) < 64 && Sum(key, "text") == Sum("\x00"+key, "text") && strings.Trim(key, "\x00") != "" {
			t.Errorf("macs by %x, and with a nought ahead: the same", key)
		}
	}
}

// P6.6
func TestByDigests(t *testing.T) {
	for _, key := range keys() {
		inner, outer := masked(key, 54), masked(key, 92)
		for _, text := range texts() {
			want := sha.Sum(outer + sha.Sum(inner+text))
			if mac := Sum(key, text); mac != want || len(mac) != 32 {
				t.Fatalf("Sum of %d bytes by %x: %x, not %x", len(text), key, mac, want)
			}
			if mac, e := taken(t, key, text).Sum(); mac != want || e != api.OK {
				t.Fatalf("a running one of %d bytes by %x: %x, %v, not %x", len(text), key, mac, e, want)
			}
		}
	}
	// Of unlike texts, and by keys of unlike blocks, each mac is its own alone.
	macs := map[string][2]string{}
	for _, key := range keys() {
		for _, text := range texts() {
			mac, own := Sum(key, text), [2]string{Block(key), text}
			if other, ok := macs[mac]; ok && other != own {
				t.Errorf("mac %x is %x's and %x's", mac, own, other)
			}
			macs[mac] = own
		}
	}
}
