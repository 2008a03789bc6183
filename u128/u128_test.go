package u128

import (
	"math/big"
	"math/rand/v2"
	"slices"
	"strings"
	"testing"

	"paymaster/api"
)

const top = 1<<64 - 1

func num(hi, lo uint64) api.U128 { return api.U128{Hi: hi, Lo: lo} }

// asBig tells a number without end, so that the package is held against arithmetic that isn't its own.
func asBig(a api.U128) *big.Int {
	n := new(big.Int).SetUint64(a.Hi)
	return n.Lsh(n, 64).Or(n, new(big.Int).SetUint64(a.Lo))
}

// fit is what a number without end must be told as.
func fit(n *big.Int) (api.U128, api.Errno) {
	if n.Sign() < 0 || n.BitLen() > 128 {
		return api.U128{}, api.ErrSum
	}
	lo := new(big.Int).And(n, new(big.Int).SetUint64(top))
	return num(new(big.Int).Rsh(n, 64).Uint64(), lo.Uint64()), api.OK
}

// edges are halves at which something carries, or nearly does.
func edges() []uint64 {
	return []uint64{0, 1, 2, 3, 10, 255, 256, 1<<32 - 1, 1 << 32, 1<<32 + 1, 1<<63 - 1, 1 << 63, 1<<63 + 1, top - 1, top}
}

// numbers are all pairs of edges, and some that chance (always the same one) picks.
func numbers() []api.U128 {
	var l []api.U128
	for _, hi := range edges() {
		for _, lo := range edges() {
			l = append(l, num(hi, lo))
		}
	}
	r := rand.New(rand.NewPCG(1, 28))
	for range 60 {
		l = append(l, num(r.Uint64()>>r.UintN(64), r.Uint64()>>r.UintN(64)))
	}
	return l
}

func factors() []uint64 {
	l := edges()
	r := rand.New(rand.NewPCG(28, 1))
	for range 20 {
		l = append(l, r.Uint64()>>r.UintN(64))
	}
	return l
}

// P1.1
func TestOfAndMost(t *testing.T) {
	for _, n := range factors() {
		if a := Of(n); a != num(0, n) {
			t.Errorf("Of(%d): %v", n, a)
		}
	}
	if a := Most(); a != num(top, top) {
		t.Errorf("Most: %v", a)
	}
	for _, a := range numbers() {
		if Cmp(a, Most()) > 0 {
			t.Errorf("%v is greater than the greatest", a)
		}
	}
}

// P1.1
func TestCmp(t *testing.T) {
	for _, x := range []struct {
		a, b api.U128
		want int
	}{
		{num(0, 0), num(0, 0), 0},
		{num(0, 1), num(0, 2), -1},
		{num(0, top), num(1, 0), -1},
		{num(1, 0), num(0, top), 1},
		{num(2, 1), num(1, 2), 1},
		{num(1, 2), num(2, 1), -1},
		{num(5, 7), num(5, 6), 1},
		{num(5, 7), num(5, 7), 0},
		{num(1<<63, 0), num(1<<63-1, top), 1},
		{Most(), Most(), 0},
		{Most(), num(top, top-1), 1},
	} {
		if got := Cmp(x.a, x.b); got != x.want {
			t.Errorf("Cmp(%v, %v): %d, not %d", x.a, x.b, got, x.want)
		}
	}
	for _, a := range numbers() {
		for _, b := range numbers() {
			if got, want := Cmp(a, b), asBig(a).Cmp(asBig(b)); got != want {
				t.Fatalf("Cmp(%v, %v): %d, not %d", a, b, got, want)
			}
		}
	}
}

// P1.2
func TestAddAndSubExamples(t *testing.T) {
	for _, x := range []struct {
		a, b, want api.U128
		e          api.Errno
	}{
		{num(0, 2), num(0, 3), num(0, 5), api.OK},
		{num(0, top), num(0, 1), num(1, 0), api.OK},
		{num(0, top), num(0, top), num(1, top-1), api.OK},
		{num(7, top), num(8, top), num(16, top-1), api.OK},
		{num(top, top-1), num(0, 1), num(top, top), api.OK},
		{num(top-1, top), num(0, 1), num(top, 0), api.OK},
		{Most(), num(0, 0), Most(), api.OK},
		{Most(), num(0, 1), num(0, 0), api.ErrSum},
		{num(top, 0), num(1, 0), num(0, 0), api.ErrSum},
		{num(top-1, top), num(1, 1), num(0, 0), api.ErrSum},
		{num(1<<63, 5), num(1<<63, 6), num(0, 0), api.ErrSum},
		{Most(), Most(), num(0, 0), api.ErrSum},
	} {
		if got, e := Add(x.a, x.b); got != x.want || e != x.e {
			t.Errorf("Add(%v, %v): %v %d", x.a, x.b, got, e)
		}
	}
	for _, x := range []struct {
		a, b, want api.U128
		e          api.Errno
	}{
		{num(0, 5), num(0, 3), num(0, 2), api.OK},
		{num(1, 0), num(0, 1), num(0, top), api.OK},
		{num(3, 1), num(1, 2), num(1, top), api.OK},
		{Most(), Most(), num(0, 0), api.OK},
		{num(0, 1), num(0, 2), num(0, 0), api.ErrSum},
		{num(0, 0), Most(), num(0, 0), api.ErrSum},
		{num(0, top), num(1, 0), num(0, 0), api.ErrSum},
		{num(1, 0), num(1, 1), num(0, 0), api.ErrSum},
		{num(1, 9), num(2, 3), num(0, 0), api.ErrSum},
	} {
		if got, e := Sub(x.a, x.b); got != x.want || e != x.e {
			t.Errorf("Sub(%v, %v): %v %d", x.a, x.b, got, e)
		}
	}
}

// P1.2
func TestAddAndSub(t *testing.T) {
	for _, a := range numbers() {
		for _, b := range numbers() {
			want, e := fit(new(big.Int).Add(asBig(a), asBig(b)))
			if got, f := Add(a, b); got != want || f != e {
				t.Fatalf("Add(%v, %v): %v %d, not %v %d", a, b, got, f, want, e)
			}
			want, e = fit(new(big.Int).Sub(asBig(a), asBig(b)))
			if got, f := Sub(a, b); got != want || f != e {
				t.Fatalf("Sub(%v, %v): %v %d, not %v %d", a, b, got, f, want, e)
			}
		}
	}
}

// P1.2
func TestSumExamples(t *testing.T) {
	for _, x := range []struct {
		l    []api.U128
		want api.U128
		e    api.Errno
	}{
		{nil, num(0, 0), api.OK},
		{[]api.U128{}, num(0, 0), api.OK},
		{[]api.U128{num(4, 2)}, num(4, 2), api.OK},
		{[]api.U128{Most()}, Most(), api.OK},
		{[]api.U128{num(0, top), num(0, top), num(0, 2)}, num(2, 0), api.OK},
		{[]api.U128{num(0, 0), Most(), num(0, 0)}, Most(), api.OK},
		{[]api.U128{num(1<<63, 0), num(1<<63-1, top)}, Most(), api.OK},
		{[]api.U128{num(1<<63, 0), num(1<<63-1, top), num(0, 1)}, num(0, 0), api.ErrSum},
		{[]api.U128{num(1<<63, 0), num(1<<63, 0)}, num(0, 0), api.ErrSum},
		{[]api.U128{Most(), num(0, 1), num(0, 0)}, num(0, 0), api.ErrSum},
		{[]api.U128{Most(), num(0, 1), num(3, 3)}, num(0, 0), api.ErrSum},
	} {
		was := slices.Clone(x.l)
		if got, e := Sum(x.l); got != x.want || e != x.e {
			t.Errorf("Sum(%v): %v %d", x.l, got, e)
		}
		if !slices.Equal(x.l, was) {
			t.Errorf("Sum changed %v to %v", was, x.l)
		}
	}
}

// P1.2
func TestSum(t *testing.T) {
	all := numbers()
	r := rand.New(rand.NewPCG(7, 7))
	for range 3000 {
		var l []api.U128
		want := new(big.Int)
		for range r.IntN(12) {
			a := all[r.IntN(len(all))]
			a.Hi >>= r.UintN(64)
			l = append(l, a)
			want.Add(want, asBig(a))
		}
		sum, e := fit(want)
		if got, f := Sum(l); got != sum || f != e {
			t.Fatalf("Sum(%v): %v %d, not %v %d", l, got, f, sum, e)
		}
	}
}

// P1.3
func TestTimesExamples(t *testing.T) {
	for _, x := range []struct {
		a    api.U128
		n    uint64
		want api.U128
		e    api.Errno
	}{
		{num(0, 6), 7, num(0, 42), api.OK},
		{num(0, top), 2, num(1, top-1), api.OK},
		{num(0, 1<<32), 1 << 32, num(1, 0), api.OK},
		{num(0, top), top, num(top-1, 1), api.OK},
		{num(1, 1), top, num(top, top), api.OK},
		{num(1, 2), top, num(0, 0), api.ErrSum},
		{num(1, 0), 1 << 63, num(1<<63, 0), api.OK},
		{num(1<<63-1, top), 2, num(top, top-1), api.OK},
		{num(1<<63, 0), 2, num(0, 0), api.ErrSum},
		{num(2, 0), 1 << 63, num(0, 0), api.ErrSum},
		{num(3, 0), 1 << 63, num(0, 0), api.ErrSum},
		{num(top, 5), 1, num(top, 5), api.OK},
		{Most(), 1, Most(), api.OK},
		{Most(), 0, num(0, 0), api.OK},
		{Most(), 2, num(0, 0), api.ErrSum},
		{Most(), top, num(0, 0), api.ErrSum},
		{num(0, 0), top, num(0, 0), api.OK},
		// (2^128 - 1) = 3 * 113427455640312821154458202477256070485
		{num(0x5555555555555555, 0x5555555555555555), 3, Most(), api.OK},
		{num(0x5555555555555555, 0x5555555555555556), 3, num(0, 0), api.ErrSum},
	} {
		if got, e := Times(x.a, x.n); got != x.want || e != x.e {
			t.Errorf("Times(%v, %d): %v %d", x.a, x.n, got, e)
		}
	}
}

// P1.3
func TestOverExamples(t *testing.T) {
	for _, x := range []struct {
		a    api.U128
		n    uint64
		q    api.U128
		rest uint64
		e    api.Errno
	}{
		{num(0, 42), 5, num(0, 8), 2, api.OK},
		{num(1, 3), 10, num(0, 1844674407370955161), 9, api.OK},
		{num(1, 0), 1 << 63, num(0, 2), 0, api.OK},
		{num(5, 7), 1, num(5, 7), 0, api.OK},
		{num(5, 7), 5, num(1, 1), 2, api.OK},
		{num(top-1, top), top, num(0, top), top - 1, api.OK},
		{Most(), top, num(1, 1), 0, api.OK},
		{Most(), 2, num(1<<63-1, top), 1, api.OK},
		{Most(), 1, Most(), 0, api.OK},
		{num(0, 3), top, num(0, 0), 3, api.OK},
		{num(0, 0), 9, num(0, 0), 0, api.OK},
		{num(0, 0), 0, num(0, 0), 0, api.ErrArg},
		{num(1, 1), 0, num(0, 0), 0, api.ErrArg},
		{Most(), 0, num(0, 0), 0, api.ErrArg},
	} {
		if q, rest, e := Over(x.a, x.n); q != x.q || rest != x.rest || e != x.e {
			t.Errorf("Over(%v, %d): %v %d %d", x.a, x.n, q, rest, e)
		}
	}
}

// P1.3
func TestTimesAndOver(t *testing.T) {
	for _, a := range numbers() {
		for _, n := range factors() {
			m := new(big.Int).SetUint64(n)
			want, e := fit(new(big.Int).Mul(asBig(a), m))
			if got, f := Times(a, n); got != want || f != e {
				t.Fatalf("Times(%v, %d): %v %d, not %v %d", a, n, got, f, want, e)
			}
			if n == 0 {
				continue
			}
			d, rest := new(big.Int).DivMod(asBig(a), m, new(big.Int))
			want, _ = fit(d)
			if got, left, f := Over(a, n); got != want || left != rest.Uint64() || f != api.OK {
				t.Fatalf("Over(%v, %d): %v %d %d, not %v %d", a, n, got, left, f, want, rest)
			}
		}
	}
}

// P1.4
func TestBytesAndFrom(t *testing.T) {
	for _, x := range []struct {
		a api.U128
		s string
	}{
		{num(0, 0), strings.Repeat("\x00", 16)},
		{num(0, 1), strings.Repeat("\x00", 15) + "\x01"},
		{num(1, 0), strings.Repeat("\x00", 7) + "\x01" + strings.Repeat("\x00", 8)},
		{num(0x0102030405060708, 0x090a0b0c0d0e0f10), "\x01\x02\x03\x04\x05\x06\x07\x08\x09\x0a\x0b\x0c\x0d\x0e\x0f\x10"},
		{num(0xfffefdfcfbfaf9f8, 0x80ff7f0001c3a9e2), "\xff\xfe\xfd\xfc\xfb\xfa\xf9\xf8\x80\xff\x7f\x00\x01\xc3\xa9\xe2"},
		{Most(), strings.Repeat("\xff", 16)},
	} {
		if s := Bytes(x.a); s != x.s {
			t.Errorf("Bytes(%v): %x", x.a, s)
		}
		if a, e := From(x.s); a != x.a || e != api.OK {
			t.Errorf("From(%x): %v %d", x.s, a, e)
		}
	}
	for _, a := range numbers() {
		var want [16]byte
		asBig(a).FillBytes(want[:])
		s := Bytes(a)
		if s != string(want[:]) {
			t.Fatalf("Bytes(%v): %x", a, s)
		}
		if b, e := From(s); b != a || e != api.OK {
			t.Fatalf("From(%x): %v %d, not %v", s, b, e, a)
		}
	}
}

// P1.4
func TestFromOfAnotherLength(t *testing.T) {
	for n := range 40 {
		for _, c := range []string{"\x00", "\x01", "\xff", "0"} {
			s := strings.Repeat(c, n)
			if a, e := From(s); n != 16 && (a != num(0, 0) || e != api.ErrArg) {
				t.Errorf("From(%x): %v %d", s, a, e)
			}
		}
	}
	// Runes aren't bytes: these are 16 and more than 16 of them.
	if a, e := From("éééééééé"); e != api.OK || Bytes(a) != "éééééééé" {
		t.Errorf("8 runes of 2 bytes: %v %d", a, e)
	}
	if a, e := From("éééééééééééééééé"); a != num(0, 0) || e != api.ErrArg {
		t.Errorf("16 runes of 2 bytes: %v %d", a, e)
	}
}

// P1.5
func TestBack(t *testing.T) {
	for _, a := range numbers() {
		for _, b := range numbers() {
			s, e := Add(a, b)
			if e != api.OK {
				continue
			}
			if d, f := Sub(s, b); d != a || f != api.OK {
				t.Fatalf("%v and %v, less that: %v %d", a, b, d, f)
			}
			if d, f := Sub(s, a); d != b || f != api.OK {
				t.Fatalf("%v and %v, less the first: %v %d", a, b, d, f)
			}
		}
		for _, n := range factors() {
			if n == 0 {
				continue
			}
			if p, e := Times(a, n); e == api.OK {
				if q, rest, f := Over(p, n); q != a || rest != 0 || f != api.OK {
					t.Fatalf("%v times %d, over that: %v %d %d", a, n, q, rest, f)
				}
			}
			q, rest, e := Over(a, n)
			if e != api.OK || rest >= n {
				t.Fatalf("%v over %d: rest %d, %d", a, n, rest, e)
			}
			p, e := Times(q, n)
			if e != api.OK {
				t.Fatalf("%v over %d, times that: %d", a, n, e)
			}
			if s, f := Add(p, Of(rest)); s != a || f != api.OK {
				t.Fatalf("%v over %d, back: %v %d", a, n, s, f)
			}
		}
	}
}

// P1.6
func TestOrder(t *testing.T) {
	l := numbers()
	for _, a := range l {
		for _, b := range l {
			c := Cmp(a, b)
			if c != -Cmp(b, a) || (c == 0) != (a == b) {
				t.Fatalf("%v and %v: %d, back %d", a, b, c, Cmp(b, a))
			}
			if c != strings.Compare(Bytes(a), Bytes(b)) {
				t.Fatalf("%v and %v: %d, unlike their bytes", a, b, c)
			}
			for _, d := range []api.U128{num(0, 1), num(0, top), num(1, 1), num(1<<63, 1<<63), num(top, 0)} {
				s, e := Add(a, d)
				u, f := Add(b, d)
				if e == api.OK && f == api.OK && Cmp(s, u) != c {
					t.Fatalf("%v and %v: %d, with %v in both %d", a, b, c, d, Cmp(s, u))
				}
				if e != api.OK && f == api.OK && c != 1 {
					t.Fatalf("%v and %v: %d, but with %v just the first one has no room", a, b, c, d)
				}
			}
		}
	}
	slices.SortFunc(l, Cmp)
	for i := range l {
		for k := range i {
			if Cmp(l[k], l[i]) > 0 {
				t.Fatalf("%v stands ahead of %v", l[k], l[i])
			}
		}
	}
}

// orders hands each order of a row to see.
func orders(l []api.U128, n int, see func([]api.U128)) {
	if n == len(l) {
		see(l)
		return
	}
	for i := n; i < len(l); i++ {
		l[n], l[i] = l[i], l[n]
		orders(l, n+1, see)
		l[n], l[i] = l[i], l[n]
	}
}

// P1.7
func TestWhateverOrder(t *testing.T) {
	for _, x := range []struct {
		l    []api.U128
		want api.U128
		e    api.Errno
	}{
		{[]api.U128{num(0, top), num(0, 1), num(1, top), num(2, 2), num(0, 0)}, num(5, 1), api.OK},
		{[]api.U128{num(1<<63, 1), num(1<<62, top), num(1<<62-2, top-1), num(0, 0), num(0, 1)}, Most(), api.OK},
		{[]api.U128{num(1<<63, 1), num(1<<62, top), num(1<<62-2, top-1), num(0, 1), num(0, 1)}, num(0, 0), api.ErrSum},
		{[]api.U128{Most(), num(0, 1), num(0, 0), num(1, 1), Most()}, num(0, 0), api.ErrSum},
		{[]api.U128{num(top, 0), num(0, top), num(0, 1), num(0, 0)}, num(0, 0), api.ErrSum},
	} {
		orders(slices.Clone(x.l), 0, func(l []api.U128) {
			if got, e := Sum(l); got != x.want || e != x.e {
				t.Fatalf("Sum(%v): %v %d", l, got, e)
			}
		})
	}
	for _, a := range numbers() {
		for _, b := range numbers() {
			s, e := Add(a, b)
			u, f := Add(b, a)
			if s != u || e != f {
				t.Fatalf("%v and %v: %v %d, the other way round %v %d", a, b, s, e, u, f)
			}
		}
	}
}
