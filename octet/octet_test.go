package octet

import (
	"math"
	"math/big"
	"math/rand/v2"
	"slices"
	"strings"
	"testing"
	"unsafe"

	"paymaster/api"
)

const top = 1<<64 - 1

func num(hi, lo uint64) api.U128 { return api.U128{Hi: hi, Lo: lo} }

// picked tells a text of n bytes that chance (always the same one) picks.
func picked(n int) string {
	r := rand.New(rand.NewPCG(8, uint64(n)))
	b := make([]byte, n)
	for i := range b {
		b[i] = byte(r.Uint32())
	}
	return string(b)
}

// bigOf tells the number as one that isn't the program's.
func bigOf(a api.U128) *big.Int {
	n := new(big.Int).Lsh(new(big.Int).SetUint64(a.Hi), 64)
	return n.Or(n, new(big.Int).SetUint64(a.Lo))
}

// ofBig tells the number of 128 bits that has these bytes, the greatest first.
func ofBig(b []byte) api.U128 {
	n := new(big.Int).SetBytes(b)
	return num(new(big.Int).Rsh(n, 64).Uint64(), new(big.Int).And(n, new(big.Int).SetUint64(top)).Uint64())
}

// laid tells a number's bytes by the document's words.
func laid(a api.U128) string {
	b := bigOf(a).Bytes()
	return string([]byte{byte(len(b))}) + string(b)
}

// wides are numbers at both ends of each count of bytes, from 0 to 16, some between, and the first thousand.
var wides = func() []api.U128 {
	var l []api.U128
	for bytes := range 17 {
		end := new(big.Int).Lsh(big.NewInt(1), uint(8*bytes))
		for _, d := range []int64{-2, -1, 0, 1, 2} {
			n := new(big.Int).Add(end, big.NewInt(d))
			if n.Sign() >= 0 && n.BitLen() <= 128 {
				l = append(l, ofBig(n.Bytes()))
			}
		}
		b := []byte(picked(bytes))
		l = append(l, ofBig(b))
		for i := range b {
			b[i] = byte(i + 1)
		}
		l = append(l, ofBig(b))
	}
	for bit := range 64 {
		l = append(l, num(0, 1<<bit), num(1<<bit, 0), num(1<<bit, top), num(0, top>>bit))
	}
	for n := range uint64(1000) {
		l = append(l, num(0, n))
	}
	return l
}()

// nums are those of them that have room in 64 bits.
var nums = func() []uint64 {
	var l []uint64
	for _, a := range wides {
		if a.Hi == 0 {
			l = append(l, a.Lo)
		}
	}
	return l
}()

// texts are none, short ones, those at which the number of their bytes needs one more, and such as look like other things.
var texts = func() []string {
	l := []string{"", "a", "ab", "\x00", "\x00\x00", "\x01", "\x01\x00", "\x02ab", "日本語", "\xff", "\xc3"}
	for _, n := range []int{1, 7, 8, 9, 15, 16, 17, 254, 255, 256, 257, 65535, 65536, 65537} {
		l = append(l, picked(n), strings.Repeat("\x00", n))
	}
	return l
}()

// thing is one that is written, or read: of kind b a byte, n a number, w a wide one, f a flag, t a text.
type thing struct {
	kind byte
	n    api.U128
	is   bool
	text string
	most int
}

const kinds = "bnwft"

// put writes the thing.
func (x thing) put(o *Out) {
	switch x.kind {
	case 'b':
		o.Byte(uint8(x.n.Lo))
	case 'n':
		o.Num(x.n.Lo)
	case 'w':
		o.Wide(x.n)
	case 'f':
		o.Flag(x.is)
	case 't':
		o.Text(x.text)
	}
}

// get reads a thing of the same kind, and as much of a text at most.
func (x thing) get(i *In) thing {
	got := thing{kind: x.kind, most: x.most}
	switch x.kind {
	case 'b':
		got.n.Lo = uint64(i.Byte())
	case 'n':
		got.n.Lo = i.Num()
	case 'w':
		got.n = i.Wide()
	case 'f':
		got.is = i.Flag()
	case 't':
		got.text = i.Text(x.most)
	}
	return got
}

// bytes tells the thing's bytes by the document's words.
func (x thing) bytes() string {
	switch x.kind {
	case 'b':
		return string([]byte{byte(x.n.Lo)})
	case 'f':
		if x.is {
			return "\x01"
		}
		return "\x00"
	case 't':
		return laid(num(0, uint64(len(x.text)))) + x.text
	}
	return laid(x.n)
}

// things tells some that chance picks; what is read of a text is at most what it has, or more.
func things(r *rand.Rand) []thing {
	w, n, s := wides, nums, texts[:20]
	var l []thing
	for range r.IntN(30) {
		x := thing{kind: kinds[r.IntN(len(kinds))]}
		switch x.kind {
		case 'b':
			x.n.Lo = r.Uint64() & 255
		case 'n':
			x.n.Lo = n[r.IntN(len(n))]
		case 'w':
			x.n = w[r.IntN(len(w))]
		case 'f':
			x.is = r.IntN(2) == 1
		case 't':
			x.text = s[r.IntN(len(s))]
			x.most = len(x.text) + []int{0, 0, 1, 1000, math.MaxInt - len(x.text)}[r.IntN(5)]
		}
		l = append(l, x)
	}
	return l
}

// written tells what was written of the things.
func written(t *testing.T, l ...thing) string {
	t.Helper()
	var o Out
	for _, x := range l {
		x.put(&o)
	}
	return done(t, &o)
}

// done tells all that was written into one that isn't spoilt.
func done(t *testing.T, o *Out) string {
	t.Helper()
	s, e := o.Done()
	if e != api.OK {
		t.Fatalf("Done: %v", e)
	}
	return s
}

// parsed tells what a thing of that kind is read as, by the document's words: it, how many bytes it has, and whether it is there.
func parsed(s string, x thing) (thing, int, bool) {
	got := thing{kind: x.kind, most: x.most}
	none := got
	if s == "" {
		return none, 0, false
	}
	first := int(s[0])
	switch x.kind {
	case 'b':
		got.n.Lo = uint64(first)
		return got, 1, true
	case 'f':
		got.is = first == 1
		return got, 1, first <= 1
	}
	most := 16
	if x.kind != 'w' {
		most = 8
	}
	if first > most || len(s) < 1+first || first > 0 && s[1] == 0 {
		return none, 0, false
	}
	n := ofBig([]byte(s[1 : 1+first]))
	if x.kind != 't' {
		got.n = n
		return got, 1 + first, true
	}
	allowed := x.most
	if allowed < 0 {
		allowed = 0
	}
	s = s[1+first:]
	if bigOf(n).Cmp(big.NewInt(int64(allowed))) > 0 || bigOf(n).Cmp(big.NewInt(int64(len(s)))) > 0 {
		return none, 0, false
	}
	got.text = s[:n.Lo]
	return got, 1 + first + int(n.Lo), true
}

// all are the things of each kind, and texts of all that a reader may allow.
var all = func() []thing {
	l := []thing{{kind: 'b'}, {kind: 'n'}, {kind: 'w'}, {kind: 'f'}}
	for _, most := range []int{math.MinInt, -1, 0, 1, 2, 300, math.MaxInt} {
		l = append(l, thing{kind: 't', most: most})
	}
	return l
}()

// spoilt asks whether it is spoilt, and for good: zero is all that is read, whatever it is that is asked for.
func spoilt(t *testing.T, i *In, of string) {
	t.Helper()
	for range 2 {
		if !i.Spoilt() || i.Rest() != 0 {
			t.Fatalf("%s: Spoilt %v, Rest %d", of, i.Spoilt(), i.Rest())
		}
		want := api.ErrCode
		if i == nil {
			want = api.ErrNil
		}
		if e := i.Close(); e != want {
			t.Fatalf("%s: Close: %v, not %v", of, e, want)
		}
		for _, x := range all {
			if got := x.get(i); got != (thing{kind: x.kind, most: x.most}) {
				t.Fatalf("%s: of a spoilt one is read %+v", of, got)
			}
		}
		i.Spoil()
	}
}

// reads asks whether a thing is read from the bytes as the document has it, and what is left then.
func reads(t *testing.T, s string, x thing) {
	t.Helper()
	want, size, is := parsed(s, x)
	i := Open(s)
	if i.Spoilt() || i.Rest() != len(s) {
		t.Fatalf("Open(%q): Spoilt %v, Rest %d", s, i.Spoilt(), i.Rest())
	}
	if got := x.get(i); is && got != want || !is && got != (thing{kind: x.kind, most: x.most}) {
		t.Fatalf("%q, read as %c (%d): %+v, not %+v", s, x.kind, x.most, got, want)
	}
	if !is {
		spoilt(t, i, s)
		return
	}
	if i.Spoilt() || i.Rest() != len(s)-size {
		t.Fatalf("%q, read as %c (%d): Spoilt %v, Rest %d", s, x.kind, x.most, i.Spoilt(), i.Rest())
	}
	end := api.OK
	if size < len(s) {
		end = api.ErrCode
	}
	if e := i.Close(); e != end {
		t.Fatalf("%q, read as %c (%d): Close: %v, not %v", s, x.kind, x.most, e, end)
	}
	// What is read from bytes, up to their end, is written as these.
	if w := written(t, want); w != s[:size] {
		t.Fatalf("%q, read as %c (%d), is written as %q", s[:size], x.kind, x.most, w)
	}
}

// P8.1, P8.2: the examples.
func TestExamples(t *testing.T) {
	for s, x := range map[string]thing{
		"\x02\x01\x2c": {kind: 'n', n: num(0, 300)},
		"\x00":         {kind: 'n'},
		"\x01\x02ab":   {kind: 't', text: "ab", most: 2},
	} {
		if got := written(t, x); got != s {
			t.Errorf("%+v: %q, not %q", x, got, s)
		}
		i := Open(s)
		if got := x.get(i); got != x || i.Close() != api.OK {
			t.Errorf("%q: %+v, %v", s, got, i.Close())
		}
	}
	i := Open("\x01\x00")
	if n := i.Num(); n != 0 {
		t.Errorf("Num of 1, 0: %d", n)
	}
	spoilt(t, i, "1, 0")
}

// P8.1
func TestBytes(t *testing.T) {
	for n := range 256 {
		var o Out
		o.Byte(uint8(n))
		if s := done(t, &o); s != string([]byte{byte(n)}) {
			t.Errorf("Byte(%d): %q", n, s)
		}
	}
	for b, want := range map[bool]string{false: "\x00", true: "\x01"} {
		var o Out
		o.Flag(b)
		if s := done(t, &o); s != want {
			t.Errorf("Flag(%v): %q", b, s)
		}
	}
}

// P8.1
func TestNumbers(t *testing.T) {
	for _, a := range wides {
		var o Out
		o.Wide(a)
		if s := done(t, &o); s != laid(a) {
			t.Fatalf("Wide(%v): %q, not %q", a, s, laid(a))
		}
	}
	for _, n := range nums {
		var o Out
		o.Num(n)
		if s := done(t, &o); s != laid(num(0, n)) {
			t.Fatalf("Num(%d): %q, not %q", n, s, laid(num(0, n)))
		}
	}
	for s, a := range map[string]api.U128{
		"\x00":                                 {},
		"\x01\xff":                             num(0, 255),
		"\x02\x01\x00":                         num(0, 256),
		"\x08" + strings.Repeat("\xff", 8):     num(0, top),
		"\x09\x01" + strings.Repeat("\x00", 8): num(1, 0),
		"\x10" + strings.Repeat("\xff", 16):    num(top, top),
	} {
		var o Out
		o.Wide(a)
		if got := done(t, &o); got != s {
			t.Fatalf("Wide(%v): %q, not %q", a, got, s)
		}
	}
}

// P8.1
func TestTexts(t *testing.T) {
	for _, s := range texts {
		var o Out
		o.Text(s)
		if got, want := done(t, &o), laid(num(0, uint64(len(s))))+s; got != want {
			t.Fatalf("Text of %d bytes: %d bytes, not %d", len(s), len(got), len(want))
		}
	}
}

// P8.1: a zero one holds nothing; one behind the other; Done ends nothing, and may be asked again.
func TestOneBehindTheOther(t *testing.T) {
	if s := done(t, new(Out)); s != "" {
		t.Errorf("a zero one: %q", s)
	}
	r := rand.New(rand.NewPCG(8, 1))
	for range 2000 {
		var o Out
		var want string
		for _, x := range things(r) {
			x.put(&o)
			want += x.bytes()
			if r.IntN(3) == 0 {
				if s := done(t, &o); s != want {
					t.Fatalf("Done: %q, not %q", s, want)
				}
			}
		}
		if s := done(t, &o); s != want || done(t, &o) != want {
			t.Fatalf("Done: %q, not %q", s, want)
		}
	}
}

// P8.1: of two that were one once, each goes on alone, and what was told stays.
func TestOutsGoOnAlone(t *testing.T) {
	for n := range 70 {
		var o Out
		want := picked(n)
		for k := range n {
			o.Byte(want[k])
		}
		before := done(t, &o)
		one, other := o, o
		one.Text("one")
		other.Text("another")
		o.Byte(7)
		third := one
		third.Byte(9)
		one.Flag(true)
		if done(t, &o) != want+"\x07" || done(t, &one) != want+"\x01\x03one\x01" || done(t, &other) != want+"\x01\x07another" || done(t, &third) != want+"\x01\x03one\x09" || before != want {
			t.Fatalf("behind %d bytes: %q, %q, %q, %q", n, done(t, &o), done(t, &one), done(t, &other), done(t, &third))
		}
	}
}

// spoiltOut asks whether what is written is spoilt, and stays so.
func spoiltOut(t *testing.T, o *Out, of string) {
	t.Helper()
	for _, x := range []thing{{kind: 'b'}, {kind: 'n'}, {kind: 'w', n: num(1, 1)}, {kind: 'f'}, {kind: 't'}, {kind: 't', text: "a"}} {
		if s, e := o.Done(); s != "" || e != api.ErrLong {
			t.Fatalf("%s: Done: %d bytes, %v", of, len(s), e)
		}
		x.put(o)
	}
	copied := *o
	if s, e := copied.Done(); s != "" || e != api.ErrLong {
		t.Fatalf("%s: Done of a copy: %d bytes, %v", of, len(s), e)
	}
}

// filled tells one into which so many bytes were written, and them.
func filled(n int) (*Out, string) {
	var o Out
	var want string
	if n > 100 {
		x := thing{kind: 't', text: strings.Repeat("x", n-100)}
		x.put(&o)
		want = x.bytes()
	}
	left := n - len(want)
	for range left {
		o.Byte('.')
	}
	return &o, want + strings.Repeat(".", left)
}

// P8.1: what just fills MaxOut bytes, and one byte more, by each kind of thing, at whatever place.
func TestFull(t *testing.T) {
	const most = 1048576
	if MaxOut != most {
		t.Fatalf("MaxOut: %d", MaxOut)
	}
	lasts := []thing{{kind: 'b', n: num(0, 9)}, {kind: 'f', is: true}, {kind: 'n'}, {kind: 'n', n: num(0, 300)}, {kind: 'n', n: num(0, top)}, {kind: 'w', n: num(top, top)}, {kind: 'w', n: num(1, 0)}, {kind: 't'}, {kind: 't', text: "abc"}, {kind: 't', text: picked(300)}, {kind: 't', text: picked(most - 100)}}
	for _, x := range lasts {
		for over := -10; over < 10; over++ {
			o, want := filled(min(most, most-len(x.bytes())+over))
			x.put(o)
			want += x.bytes()
			if len(want) > most {
				spoiltOut(t, o, "too much")
				continue
			}
			if s := done(t, o); s != want {
				t.Fatalf("%+v: %d bytes, not %d", x, len(s), len(want))
			}
			left := most - len(want)
			for range left {
				o.Byte('.')
			}
			want += strings.Repeat(".", left)
			if s := done(t, o); s != want {
				t.Fatalf("%d bytes, not %d", len(s), len(want))
			}
			o.Byte(0)
			spoiltOut(t, o, "one byte more")
		}
	}
}

// P8.1: of texts alone, and byte by byte.
func TestFullAtOnce(t *testing.T) {
	for n, want := range map[int]api.Errno{MaxOut - 5: api.OK, MaxOut - 4: api.OK, MaxOut - 3: api.ErrLong, MaxOut: api.ErrLong, MaxOut + 1: api.ErrLong, 3 * MaxOut: api.ErrLong} {
		var o Out
		text := strings.Repeat("x", n)
		o.Text(text)
		if s, e := o.Done(); e != want || e == api.OK && s != laid(num(0, uint64(n)))+text || e != api.OK && s != "" {
			t.Errorf("a text of %d bytes: %d bytes, %v", n, len(s), e)
		}
		if want != api.OK {
			spoiltOut(t, &o, "a long text")
		}
	}
	var o Out
	for k := range MaxOut {
		o.Byte(byte(k))
	}
	s := done(t, &o)
	if len(s) != MaxOut {
		t.Fatalf("%d bytes", len(s))
	}
	for k := range MaxOut {
		if s[k] != byte(k) {
			t.Fatalf("byte %d: %d", k, s[k])
		}
	}
	o.Num(0)
	spoiltOut(t, &o, "byte by byte")
}

// P8.1: nothing is written into a nil one.
func TestNilOut(t *testing.T) {
	var o *Out
	for range 2 {
		if s, e := o.Done(); s != "" || e != api.ErrNil {
			t.Errorf("Done: %q, %v", s, e)
		}
		o.Byte(1)
		o.Num(300)
		o.Wide(num(top, top))
		o.Flag(true)
		o.Text("ab")
		o.Text(strings.Repeat("x", MaxOut+1))
	}
}

// P8.2
func TestReadNumbers(t *testing.T) {
	for _, a := range wides {
		i := Open(laid(a))
		if b := i.Wide(); b != a || i.Close() != api.OK {
			t.Fatalf("Wide of %v's bytes: %v, %v", a, b, i.Close())
		}
		// One of more than 8 bytes is no number of 64 bits.
		i = Open(laid(a))
		n := i.Num()
		if a.Hi > 0 {
			if n != 0 {
				t.Errorf("Num of %v's bytes: %d", a, n)
			}
			spoilt(t, i, "a wide one, read as a number")
		} else if n != a.Lo || i.Close() != api.OK {
			t.Fatalf("Num of %v's bytes: %d, %v", a, n, i.Close())
		}
	}
}

// P8.2, P8.5: each count, each greatest byte, and too few bytes behind it, or too many.
func TestReadCounts(t *testing.T) {
	for count := range 256 {
		for _, greatest := range []string{"\x00", "\x01", "\x80", "\xff"} {
			for _, n := range []int{-2, -1, 0, 1, 20} {
				behind := (greatest + picked(count+20))[:max(0, count+n)]
				for _, x := range all {
					reads(t, string([]byte{byte(count)})+behind, x)
				}
			}
		}
	}
}

// P8.2, P8.5: all bytes alone, all pairs, and some of three.
func TestReadOfAny(t *testing.T) {
	for _, x := range all {
		reads(t, "", x)
		for n := range 1 << 16 {
			b := string([]byte{byte(n >> 8), byte(n)})
			if n < 256 {
				reads(t, b[1:], x)
			}
			reads(t, b, x)
			reads(t, "\x02"+b, x)
		}
	}
}

// P8.2
func TestReadTexts(t *testing.T) {
	for _, s := range texts {
		whole := laid(num(0, uint64(len(s)))) + s
		for _, most := range []int{math.MinInt, -len(s), -1, 0, len(s) - 1, len(s), len(s) + 1, 2 * len(s), math.MaxInt} {
			x := thing{kind: 't', most: most}
			reads(t, whole, x)
			reads(t, whole+"more", x)
			reads(t, whole[:len(whole)-1], x)
			i := Open(whole)
			got := i.Text(most)
			if allowed := len(s) <= max(most, 0); got != s && allowed || got != "" && !allowed || i.Spoilt() == allowed {
				t.Errorf("Text(%d) of %d bytes: %d bytes, Spoilt %v", most, len(s), len(got), i.Spoilt())
			}
		}
	}
	// What isn't there is asked for of texts as long as a number may tell.
	for _, n := range nums {
		for _, most := range []int{-1, 0, 3, math.MaxInt} {
			reads(t, laid(num(0, n))+"abc", thing{kind: 't', most: most})
		}
	}
	// The number of a text's bytes is a number: it has no greatest byte 0, and no more than 8.
	for _, s := range []string{"\x01\x00", "\x02\x00\x02ab", "\x02\x00\x00", "\x09\x01\x00\x00\x00\x00\x00\x00\x00\x00", "\x09\x00\x00\x00\x00\x00\x00\x00\x00\x02ab"} {
		i := Open(s)
		if got := i.Text(math.MaxInt); got != "" {
			t.Errorf("Text of %q: %q", s, got)
		}
		spoilt(t, i, s)
	}
}

// P8.2
func TestReadFlags(t *testing.T) {
	for n := range 256 {
		i := Open(string([]byte{byte(n), 5}))
		is := i.Flag()
		if is != (n == 1) || i.Spoilt() != (n > 1) {
			t.Errorf("Flag of %d: %v, Spoilt %v", n, is, i.Spoilt())
		}
		if n > 1 {
			spoilt(t, i, "a flag above 1")
		} else if i.Byte() != 5 || i.Close() != api.OK {
			t.Errorf("behind a flag of %d: %v", n, i.Close())
		}
	}
}

// P8.2: too few bytes, at each place of many things: what is ahead is read, nothing from there on.
func TestReadWhatEndsTooEarly(t *testing.T) {
	l := []thing{{kind: 'b', n: num(0, 200)}, {kind: 'n', n: num(0, 300)}, {kind: 't', text: "ab", most: 2}, {kind: 'f', is: true}, {kind: 'w', n: num(7, 8)}, {kind: 't', most: 9}, {kind: 'n', n: num(0, top)}, {kind: 'n'}, {kind: 'w', n: num(top, top)}, {kind: 't', text: picked(300), most: 300}, {kind: 'f'}, {kind: 'b'}}
	whole := written(t, l...)
	for size := range len(whole) {
		i := Open(whole[:size])
		end, cut := 0, false
		for _, x := range l {
			end += len(x.bytes())
			cut = cut || end > size
			want := x
			if cut {
				want = thing{kind: x.kind, most: x.most}
			}
			if got := x.get(i); got != want {
				t.Fatalf("of %d bytes: %+v, not %+v", size, got, want)
			}
			if i.Spoilt() != cut {
				t.Fatalf("of %d bytes, read to %d: Spoilt %v", size, end, i.Spoilt())
			}
			if !cut && i.Rest() != size-end {
				t.Fatalf("of %d bytes, read to %d: Rest %d", size, end, i.Rest())
			}
		}
		spoilt(t, i, "one that ends too early")
	}
}

// P8.2, P8.3
func TestNilIn(t *testing.T) {
	var i *In
	spoilt(t, i, "a nil one")
	i.Spoil()
	spoilt(t, i, "a nil one")
}

// P8.3
func TestSpoil(t *testing.T) {
	whole := "\x05\x01\x02ab\x01"
	l := []thing{{kind: 'b'}, {kind: 't', most: 2}, {kind: 'f'}}
	for n := range len(l) + 1 {
		i := Open(whole)
		for _, x := range l[:n] {
			x.get(i)
		}
		if i.Spoilt() {
			t.Errorf("behind %d things: Spoilt", n)
		}
		i.Spoil()
		spoilt(t, i, whole)
	}
	i := Open("")
	i.Spoil()
	spoilt(t, i, "of no bytes")
}

// P8.3
func TestRestAndClose(t *testing.T) {
	for n := range 300 {
		i := Open(picked(n))
		for left := n; left >= 0; left-- {
			if i.Rest() != left || i.Rest() != left {
				t.Fatalf("Rest, of %d bytes: %d, not %d", n, i.Rest(), left)
			}
			want := api.ErrCode
			if left == 0 {
				want = api.OK
			}
			// To ask whether all was read spoils nothing: one may read on.
			if i.Close() != want || i.Close() != want || i.Spoilt() {
				t.Fatalf("Close, %d bytes ahead of the end: %v, Spoilt %v", left, i.Close(), i.Spoilt())
			}
			if left > 0 {
				if b := i.Byte(); b != picked(n)[n-left] {
					t.Fatalf("Byte %d of %d: %d", n-left, n, b)
				}
			}
		}
		if i.Byte() != 0 {
			t.Error("Byte behind the end: not 0")
		}
		spoilt(t, i, "behind the end")
	}
	if i := new(In); i.Spoilt() || i.Rest() != 0 || i.Close() != api.OK {
		t.Error("a zero one: not as one of no bytes")
	}
}

// P8.4
func TestThereAndBack(t *testing.T) {
	r := rand.New(rand.NewPCG(8, 4))
	for range 3000 {
		l := things(r)
		i := Open(written(t, l...))
		for _, x := range l {
			if got := x.get(i); got != x || i.Spoilt() {
				t.Fatalf("%+v is read as %+v", x, got)
			}
		}
		if e := i.Close(); e != api.OK || i.Rest() != 0 {
			t.Fatalf("Close: %v, Rest %d", e, i.Rest())
		}
	}
	for _, a := range wides {
		for _, b := range []api.U128{{}, num(0, 1), a, num(top, top)} {
			i := Open(written(t, thing{kind: 'w', n: a}, thing{kind: 'w', n: b}))
			if i.Wide() != a || i.Wide() != b || i.Close() != api.OK {
				t.Errorf("%v and %v: another one is read, or %v", a, b, i.Close())
			}
		}
	}
}

// P8.5: bytes of chance, and such as are nearly something's, that are read as things of chance.
func TestJustOneWay(t *testing.T) {
	r := rand.New(rand.NewPCG(8, 5))
	closed := 0
	for range 60000 {
		var b []byte
		if l := things(r); r.IntN(2) == 0 {
			b = []byte(written(t, l...))
			if len(b) > 0 {
				b[r.IntN(len(b))] = "\x00\x01\x02\x08\x09\x10\x11\xff"[r.IntN(8)]
				b = b[r.IntN(len(b)):]
			}
		} else {
			for range r.IntN(12) {
				b = append(b, "\x00\x01\x01\x02\x03\x08\x09\xff"[r.IntN(8)])
			}
		}
		s := string(b)
		i := Open(s)
		var got []thing
		for i.Rest() > 0 {
			kind := thing{kind: kinds[r.IntN(len(kinds))], most: r.IntN(400) - 1}
			want, size, is := parsed(s[len(s)-i.Rest():], kind)
			rest := i.Rest()
			x := kind.get(i)
			if is && (x != want || i.Spoilt() || i.Rest() != rest-size) || !is && (x != kind || !i.Spoilt()) {
				t.Fatalf("%q, %d bytes ahead of its end, as %+v: %+v, not %+v", s, rest, kind, x, want)
			}
			got = append(got, x)
		}
		if i.Close() != api.OK {
			spoilt(t, i, s)
			continue
		}
		closed++
		if w := written(t, got...); w != s {
			t.Fatalf("%q is read as %+v, and written as %q", s, got, w)
		}
	}
	if closed < 5000 {
		t.Errorf("just %d were read to the end", closed)
	}
}

// P8.6
func TestAnOrder(t *testing.T) {
	w := slices.Clone(wides)
	slices.SortFunc(w, func(a, b api.U128) int { return bigOf(a).Cmp(bigOf(b)) })
	w = slices.Compact(w)
	var l []string
	for _, a := range w {
		l = append(l, written(t, thing{kind: 'w', n: a}))
	}
	for i := range l {
		for j := range i {
			if l[j] >= l[i] {
				t.Fatalf("%v's bytes aren't less than %v's", w[j], w[i])
			}
		}
	}
	n := slices.Clone(nums)
	slices.Sort(n)
	for i := range n {
		for j := range i {
			less := written(t, thing{kind: 'n', n: num(0, n[j])}) < written(t, thing{kind: 'n', n: num(0, n[i])})
			if less != (n[j] < n[i]) {
				t.Fatalf("bytes of %d and of %d: another order", n[j], n[i])
			}
		}
	}
}

// from tells whether a text stands in another one's memory.
func from(s, whole string) bool {
	at, first := uintptr(unsafe.Pointer(unsafe.StringData(s))), uintptr(unsafe.Pointer(unsafe.StringData(whole)))
	return s != "" && at >= first && at < first+uintptr(len(whole))
}

// The rules of all layers: nothing that is handed in is kept, and what is told is the caller's own.
func TestOwn(t *testing.T) {
	text := picked(1000)
	for ahead := range 40 {
		for _, size := range []int{1, 2, 3, 4, 9, 300, 1000} {
			var o Out
			for range ahead {
				o.Byte(1)
			}
			o.Text(text[:size])
			for p := o.last; p != nil; p = p.before {
				if from(p.text, text) {
					t.Errorf("Text of %d bytes, behind %d: the caller's memory is kept", size, ahead)
				}
			}
		}
	}
	whole := "\x02\x03\xe8" + text
	i := Open(whole)
	if from(string(i.left[:0]), whole) || from(unsafe.String(unsafe.SliceData(i.left), len(i.left)), whole) {
		t.Error("Open: the caller's memory is kept")
	}
	own := unsafe.String(unsafe.SliceData(i.left), len(i.left))
	got := i.Text(1000)
	if got != text || from(got, whole) || from(got, own) {
		t.Errorf("Text: %d bytes of another one's memory", len(got))
	}
}

// P8.2: of two that were one once, each goes on alone.
func TestInsGoOnAlone(t *testing.T) {
	i := Open("\x05\x01\x02ab\x01")
	i.Byte()
	other, third := *i, *i
	third.Spoil()
	if i.Text(2) != "ab" || !i.Flag() || i.Close() != api.OK || other.Rest() != 5 || other.Text(9) != "ab" || other.Rest() != 1 || other.Num() != 0 || !other.Spoilt() || i.Spoilt() {
		t.Error("one goes on by what another one reads")
	}
	spoilt(t, &third, "a copy")
}

// Few pieces are kept, however many things are written.
func TestFewPieces(t *testing.T) {
	r := rand.New(rand.NewPCG(8, 9))
	for range 20 {
		var o Out
		for o.size < MaxOut-70000 {
			x := thing{kind: 't', text: texts[r.IntN(len(texts))]}
			if r.IntN(50) > 0 {
				x = thing{kind: 'n', n: num(0, r.Uint64()>>r.IntN(64))}
			}
			x.put(&o)
			pieces := 0
			for p := o.last; p != nil; p = p.before {
				pieces++
			}
			if pieces > 21 {
				t.Fatalf("%d pieces of %d bytes", pieces, o.size)
			}
		}
	}
}
