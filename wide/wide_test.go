package wide

import (
	"math/big"
	"math/rand/v2"
	"slices"
	"testing"

	"paymaster/api"
	"paymaster/u128"
)

const top = 1<<64 - 1

func num(hi, lo uint64) api.U128 { return api.U128{Hi: hi, Lo: lo} }

func of(high, hi, lo uint64) Wide { return Wide{High: high, Low: num(hi, lo)} }

// asBig tells a number without end, so that the package is held against arithmetic that isn't its own.
func asBig(a api.U128) *big.Int {
	n := new(big.Int).SetUint64(a.Hi)
	return n.Lsh(n, 64).Or(n, new(big.Int).SetUint64(a.Lo))
}

// wideBig tells a wide number without end.
func wideBig(w Wide) *big.Int {
	n := new(big.Int).SetUint64(w.High)
	return n.Lsh(n, 128).Or(n, asBig(w.Low))
}

// fit is what a number without end must be told as: a High past its end stays at its greatest.
func fit(n *big.Int) Wide {
	bit64 := new(big.Int).SetUint64(top)
	w := Wide{High: top}
	if high := new(big.Int).Rsh(n, 128); high.IsUint64() {
		w.High = high.Uint64()
	}
	w.Low.Lo = new(big.Int).And(n, bit64).Uint64()
	w.Low.Hi = new(big.Int).And(new(big.Int).Rsh(n, 64), bit64).Uint64()
	return w
}

func plus(n, m *big.Int) *big.Int { return new(big.Int).Add(n, m) }

// numbers are pairs of halves at which something carries, and some that chance (always the same one) picks.
func numbers() []api.U128 {
	edges := []uint64{0, 1, 2, 255, 1 << 32, 1<<63 - 1, 1 << 63, top - 1, top}
	var l []api.U128
	for _, hi := range edges {
		for _, lo := range edges {
			l = append(l, num(hi, lo))
		}
	}
	r := rand.New(rand.NewPCG(3, 128))
	for range 40 {
		l = append(l, num(r.Uint64()>>r.UintN(64), r.Uint64()>>r.UintN(64)))
	}
	return l
}

// wides are numbers that hold 2^128 never, some times, and nearly as often as there is room for.
func wides() []Wide {
	highs := []uint64{0, 1, 2, 1<<63 - 1, 1 << 63, top - 2, top - 1, top}
	lows := []api.U128{num(0, 0), num(0, 1), num(0, top), num(1, 0), num(1<<63, 0), num(top, 0), num(top, top-1), num(top, top)}
	var l []Wide
	for _, high := range highs {
		for _, low := range lows {
			l = append(l, Wide{High: high, Low: low})
		}
	}
	r := rand.New(rand.NewPCG(128, 3))
	for range 60 {
		l = append(l, of(r.Uint64()>>r.UintN(64), r.Uint64()>>r.UintN(64), r.Uint64()>>r.UintN(64)))
	}
	return l
}

// P3.1
func TestOf(t *testing.T) {
	for _, a := range numbers() {
		if w := Of(a); w != (Wide{Low: a}) {
			t.Errorf("Of(%v): %v", a, w)
		}
	}
}

// P3.1
func TestPlusExamples(t *testing.T) {
	for _, x := range []struct {
		w    Wide
		a    api.U128
		want Wide
	}{
		{of(0, 0, 0), num(0, 0), of(0, 0, 0)},
		{of(0, 0, 3), num(0, 4), of(0, 0, 7)},
		{of(0, 0, top), num(0, 1), of(0, 1, 0)},
		{of(0, top, top-1), num(0, 1), of(0, top, top)},
		{of(0, top, top), num(0, 0), of(0, top, top)},
		// from Low to High
		{of(0, top, top), num(0, 1), of(1, 0, 0)},
		{of(0, 0, 1), num(top, top), of(1, 0, 0)},
		{of(0, top, top), num(0, 2), of(1, 0, 1)},
		{of(0, top, top), num(top, top), of(1, top, top-1)},
		{of(0, 1<<63, 5), num(1<<63, 6), of(1, 0, 11)},
		{of(0, top, 0), num(1, 0), of(1, 0, 0)},
		{of(7, top, top), num(0, 1), of(8, 0, 0)},
		{of(7, 0, top), num(0, 1), of(7, 1, 0)},
		{of(7, 1, 2), num(0, 0), of(7, 1, 2)},
		{of(top-1, top, top), num(0, 1), of(top, 0, 0)},
		// High at its greatest
		{of(top, 0, 0), num(0, 5), of(top, 0, 5)},
		{of(top, top, top), num(0, 0), of(top, top, top)},
		{of(top, top, top), num(0, 1), of(top, 0, 0)},
		{of(top, top, top), num(top, top), of(top, top, top-1)},
	} {
		if got := x.w.Plus(x.a); got != x.want {
			t.Errorf("%v plus %v: %v, not %v", x.w, x.a, got, x.want)
		}
	}
}

// P3.1
func TestPlus(t *testing.T) {
	for _, w := range wides() {
		for _, a := range numbers() {
			was := w
			if got, want := w.Plus(a), fit(plus(wideBig(w), asBig(a))); got != want {
				t.Fatalf("%v plus %v: %v, not %v", w, a, got, want)
			}
			if w != was {
				t.Fatalf("Plus changed %v to %v", was, w)
			}
		}
	}
}

// P3.1
func TestAndExamples(t *testing.T) {
	for _, x := range []struct{ w, x, want Wide }{
		{of(0, 0, 0), of(0, 0, 0), of(0, 0, 0)},
		{of(1, 2, 3), of(4, 5, 6), of(5, 7, 9)},
		{of(1, 0, 0), of(0, 0, 0), of(1, 0, 0)},
		{of(1, top, top), of(2, 0, 1), of(4, 0, 0)},
		{of(1, top, top), of(2, top, top), of(4, top, top-1)},
		{of(1<<63, 0, 0), of(1<<63-1, 0, 0), of(top, 0, 0)},
		{of(1<<63, 1, 1), of(1<<63, 2, 2), of(top, 3, 3)},
		{of(1<<63, top, top), of(1<<63-1, 0, 1), of(top, 0, 0)},
		{of(top-1, top, top), of(1, 0, 0), of(top, top, top)},
		{of(top-1, top, top), of(1, 0, 1), of(top, 0, 0)},
		{of(top, 0, 0), of(1, 0, 0), of(top, 0, 0)},
		{of(top, 1, 2), of(top, 3, 4), of(top, 4, 6)},
		{of(top, top, top), of(top, top, top), of(top, top, top-1)},
	} {
		if got := x.w.And(x.x); got != x.want {
			t.Errorf("%v and %v: %v, not %v", x.w, x.x, got, x.want)
		}
		if got := x.x.And(x.w); got != x.want {
			t.Errorf("%v and %v: %v, not %v", x.x, x.w, got, x.want)
		}
	}
}

// P3.1
func TestAnd(t *testing.T) {
	for _, w := range wides() {
		for _, x := range wides() {
			if got, want := w.And(x), fit(plus(wideBig(w), wideBig(x))); got != want {
				t.Fatalf("%v and %v: %v, not %v", w, x, got, want)
			}
		}
	}
}

// P3.2
func TestCmpExamples(t *testing.T) {
	for _, x := range []struct {
		w, x Wide
		want int
	}{
		{of(0, 0, 0), of(0, 0, 0), 0},
		{of(0, 0, 1), of(0, 0, 2), -1},
		{of(0, 0, top), of(0, 1, 0), -1},
		{of(0, top, top), of(1, 0, 0), -1},
		{of(1, 0, 0), of(0, top, top), 1},
		{of(2, 1, 0), of(1, 2, 0), 1},
		{of(1, 0, 2), of(2, 0, 1), -1},
		{of(3, 4, 5), of(3, 4, 5), 0},
		{of(3, 4, 6), of(3, 4, 5), 1},
		{of(3, 4, 5), of(3, 5, 4), -1},
		{of(1<<63, 0, 0), of(1<<63-1, top, top), 1},
		{of(top, top, top), of(top, top, top), 0},
		{of(top, top, top), of(top, top, top-1), 1},
	} {
		if got := x.w.Cmp(x.x); got != x.want {
			t.Errorf("Cmp(%v, %v): %d, not %d", x.w, x.x, got, x.want)
		}
		if got := Less(x.w, x.x); got != (x.want < 0) {
			t.Errorf("Less(%v, %v): %t", x.w, x.x, got)
		}
	}
}

// P3.2
func TestCmp(t *testing.T) {
	for _, w := range wides() {
		for _, x := range wides() {
			want := wideBig(w).Cmp(wideBig(x))
			if got := w.Cmp(x); got != want {
				t.Fatalf("Cmp(%v, %v): %d, not %d", w, x, got, want)
			}
			if got := Less(w, x); got != (want < 0) {
				t.Fatalf("Less(%v, %v): %t", w, x, got)
			}
		}
	}
}

// P3.3
func TestNarrow(t *testing.T) {
	for _, a := range numbers() {
		if got, e := Of(a).Narrow(); got != a || e != api.OK {
			t.Errorf("%v, narrow: %v %d", a, got, e)
		}
		for _, high := range []uint64{1, 2, 1 << 32, 1 << 63, top - 1, top} {
			if got, e := (Wide{High: high, Low: a}).Narrow(); got != num(0, 0) || e != api.ErrSum {
				t.Errorf("%d times 2^128, and %v, narrow: %v %d", high, a, got, e)
			}
		}
	}
	if got, e := Of(u128.Most()).Plus(u128.Of(1)).Narrow(); got != num(0, 0) || e != api.ErrSum {
		t.Errorf("2^128, narrow: %v %d", got, e)
	}
	if got, e := (Wide{}).Narrow(); got != num(0, 0) || e != api.OK {
		t.Errorf("0, narrow: %v %d", got, e)
	}
}

// P3.4
func TestAllExamples(t *testing.T) {
	for _, x := range []struct {
		l    []api.U128
		want Wide
	}{
		{nil, of(0, 0, 0)},
		{[]api.U128{}, of(0, 0, 0)},
		{[]api.U128{num(0, 0)}, of(0, 0, 0)},
		{[]api.U128{num(4, 2)}, of(0, 4, 2)},
		{[]api.U128{u128.Most()}, of(0, top, top)},
		{[]api.U128{num(0, 1), num(0, 2), num(0, 4)}, of(0, 0, 7)},
		{[]api.U128{num(0, top), num(0, top), num(0, 2)}, of(0, 2, 0)},
		{[]api.U128{u128.Most(), num(0, 1)}, of(1, 0, 0)},
		{[]api.U128{num(0, 1), u128.Most()}, of(1, 0, 0)},
		{[]api.U128{u128.Most(), u128.Most(), num(0, 2)}, of(2, 0, 0)},
		{[]api.U128{num(1<<63, 0), num(1<<63, 0), num(1<<63, 7)}, of(1, 1<<63, 7)},
		{slices.Repeat([]api.U128{u128.Most()}, 2048), of(2047, top, top-2047)},
	} {
		was := slices.Clone(x.l)
		if got := All(x.l); got != x.want {
			t.Errorf("All of %d numbers: %v, not %v", len(x.l), got, x.want)
		}
		if !slices.Equal(x.l, was) {
			t.Errorf("All changed %v to %v", was, x.l)
		}
	}
}

// rows hands rows that chance (always the same one) picks, of up to 12 numbers, to see.
func rows(n int, see func(l []api.U128, sum *big.Int)) {
	all := numbers()
	r := rand.New(rand.NewPCG(12, 3))
	for range n {
		var l []api.U128
		sum := new(big.Int)
		small := r.UintN(2) * 4
		for range r.IntN(13) {
			a := all[r.IntN(len(all))]
			// Without this hardly a row's sum would be narrow.
			a.Hi >>= small
			l = append(l, a)
			sum.Add(sum, asBig(a))
		}
		see(l, sum)
	}
}

// P3.4
func TestAll(t *testing.T) {
	rows(3000, func(l []api.U128, sum *big.Int) {
		if got := All(l); got != fit(sum) {
			t.Fatalf("All(%v): %v, not %v", l, got, fit(sum))
		}
	})
}

// P3.4
func TestBalancedExamples(t *testing.T) {
	most := u128.Most()
	for _, x := range []struct {
		left, right []api.U128
		want        bool
	}{
		{nil, nil, true},
		{nil, []api.U128{}, true},
		{nil, []api.U128{num(0, 0)}, true},
		{nil, []api.U128{num(0, 0), num(0, 0)}, true},
		{nil, []api.U128{num(0, 1)}, false},
		{nil, []api.U128{num(1, 0)}, false},
		{[]api.U128{num(0, 3), num(0, 4)}, []api.U128{num(0, 5), num(0, 2)}, true},
		{[]api.U128{num(0, 3), num(0, 4)}, []api.U128{num(0, 5), num(0, 3)}, false},
		{[]api.U128{num(0, 3), num(0, 4)}, []api.U128{num(0, 3)}, false},
		{[]api.U128{num(0, 7)}, []api.U128{num(0, 1), num(0, 1), num(0, 5)}, true},
		{[]api.U128{num(1, 2)}, []api.U128{num(2, 1)}, false},
		{[]api.U128{num(1, 0)}, []api.U128{num(0, top), num(0, 1)}, true},
		// rows whose sums have no room in 128 bits
		{[]api.U128{most, most}, []api.U128{most, num(0, 1), num(top, top-1)}, true},
		{[]api.U128{most, most}, []api.U128{most}, false},
		{[]api.U128{most, num(0, 1)}, []api.U128{most, num(0, 2)}, false},
		// 2^128 more is not the same
		{[]api.U128{most, num(0, 1)}, nil, false},
		{[]api.U128{most, most, num(0, 2)}, []api.U128{most, num(0, 1)}, false},
		{[]api.U128{most, num(0, 6)}, []api.U128{num(0, 5)}, false},
	} {
		was := slices.Concat(x.left, x.right)
		if got := Balanced(x.left, x.right); got != x.want {
			t.Errorf("Balanced(%v, %v): %t", x.left, x.right, got)
		}
		if got := Balanced(x.right, x.left); got != x.want {
			t.Errorf("Balanced(%v, %v): %t", x.right, x.left, got)
		}
		if !slices.Equal(slices.Concat(x.left, x.right), was) {
			t.Errorf("Balanced changed %v to %v and %v", was, x.left, x.right)
		}
	}
}

// P3.4
func TestBalanced(t *testing.T) {
	var last []api.U128
	lastSum := new(big.Int)
	rows(3000, func(l []api.U128, sum *big.Int) {
		if got, want := Balanced(last, l), lastSum.Cmp(sum) == 0; got != want {
			t.Fatalf("Balanced(%v, %v): %t", last, l, got)
		}
		other := slices.Clone(l)
		slices.Reverse(other)
		if !Balanced(l, append(other, num(0, 0))) {
			t.Fatalf("%v isn't the same the other way round, with a 0", l)
		}
		if Balanced(l, append(other, num(0, 1))) || Balanced(append(other, u128.Most(), num(0, 1)), l) {
			t.Fatalf("%v is the same with 1, or with 2^128, more", l)
		}
		last, lastSum = l, sum
	})
}

// P3.5
func TestNoEnd(t *testing.T) {
	narrow, more := 0, 0
	see := func(l []api.U128) {
		want, e := u128.Sum(l)
		if got, f := All(l).Narrow(); got != want || f != e {
			t.Fatalf("All(%v), narrow: %v %d, not %v %d", l, got, f, want, e)
		}
		if e == api.OK {
			narrow++
		} else {
			more++
		}
	}
	for _, a := range numbers() {
		for _, b := range numbers() {
			see([]api.U128{a, b})
		}
	}
	see(nil)
	rows(3000, func(l []api.U128, _ *big.Int) { see(l) })
	if narrow < 1000 || more < 1000 {
		t.Errorf("just %d had room, and %d had none", narrow, more)
	}
}

// orders hands each order of a row to see.
func orders(l []api.U128, n int, see func([]api.U128)) {
	if n == len(l) {
		see(l)
		return
	}
	for i := n; i < len(l); i++ {
		l[n], l[i] = l[i], l[n]
		orders(l, n+1, see)
		l[n], l[i] = l[i], l[n]
	}
}

// P3.6
func TestWhateverOrder(t *testing.T) {
	for _, x := range []struct {
		l    []api.U128
		want Wide
	}{
		{[]api.U128{num(0, top), num(0, 1), num(1, top), num(2, 2), num(0, 0)}, of(0, 5, 1)},
		{[]api.U128{num(1<<63, 1), num(1<<62, top), num(1<<62-2, top-1), num(0, 1), num(0, 1)}, of(1, 0, 0)},
		{[]api.U128{u128.Most(), num(0, 1), num(0, 0), num(1, 1), u128.Most()}, of(2, 1, 0)},
		{[]api.U128{u128.Most(), u128.Most(), u128.Most(), u128.Most(), num(0, 4)}, of(4, 0, 0)},
	} {
		orders(slices.Clone(x.l), 0, func(l []api.U128) {
			if got := All(l); got != x.want {
				t.Fatalf("All(%v): %v, not %v", l, got, x.want)
			}
			for i := range len(l) + 1 {
				if got := All(l[:i]).And(All(l[i:])); got != x.want {
					t.Fatalf("All of %v and of %v: %v, not %v", l[:i], l[i:], got, x.want)
				}
			}
		})
	}
}

// P3.6
func TestPartByPart(t *testing.T) {
	r := rand.New(rand.NewPCG(6, 3))
	rows(2000, func(l []api.U128, _ *big.Int) {
		i := r.IntN(len(l) + 1)
		k := i + r.IntN(len(l)+1-i)
		whole, first, second, third := All(l), All(l[:i]), All(l[i:k]), All(l[k:])
		if got := first.And(second).And(third); got != whole {
			t.Fatalf("%v, cut at %d and %d: %v, not %v", l, i, k, got, whole)
		}
		if got := third.And(first.And(second)); got != whole {
			t.Fatalf("%v, cut at %d and %d, the last part first: %v, not %v", l, i, k, got, whole)
		}
	})
	// Of parts that are past their end too.
	all := wides()
	for range 20000 {
		w, x, y := all[r.IntN(len(all))], all[r.IntN(len(all))], all[r.IntN(len(all))]
		if w.And(x).And(y) != w.And(x.And(y)) || w.And(x) != x.And(w) {
			t.Fatalf("%v, %v and %v come to another sum in another order", w, x, y)
		}
	}
}

// P3.6: while High isn't at its end.
func TestGreater(t *testing.T) {
	for _, w := range wides() {
		for _, a := range numbers() {
			if w.High == top {
				continue
			}
			want := 1
			if a == num(0, 0) {
				want = 0
			}
			if got := w.Plus(a).Cmp(w); got != want {
				t.Fatalf("%v plus %v, against what it was: %d", w, a, got)
			}
		}
		for _, x := range wides() {
			if w.High+x.High < w.High || w.High+x.High == top {
				continue
			}
			if got := w.And(x).Cmp(w); got != x.Cmp(Wide{}) {
				t.Fatalf("%v and %v, against the first one: %d", w, x, got)
			}
		}
	}
}

// P3.7
func TestOrder(t *testing.T) {
	l := wides()
	for _, w := range l {
		for _, x := range l {
			c := w.Cmp(x)
			if c != -x.Cmp(w) || (c == 0) != (w == x) {
				t.Fatalf("%v and %v: %d, back %d", w, x, c, x.Cmp(w))
			}
			if Less(w, x) && Less(x, w) {
				t.Fatalf("%v and %v are both less", w, x)
			}
			for _, d := range []Wide{of(0, 0, 0), of(0, 0, 1), of(0, top, top), of(1, 0, 0), of(1<<62, 1<<63, 1)} {
				u, v := w.And(d), x.And(d)
				if u.High != top && v.High != top && u.Cmp(v) != c {
					t.Fatalf("%v and %v: %d, with %v in both %d", w, x, c, d, u.Cmp(v))
				}
			}
			for _, a := range []api.U128{num(0, 0), num(0, 1), num(1<<63, 1), num(top, top)} {
				u, v := w.Plus(a), x.Plus(a)
				if u.High != top && v.High != top && u.Cmp(v) != c {
					t.Fatalf("%v and %v: %d, with %v in both %d", w, x, c, a, u.Cmp(v))
				}
			}
		}
	}
	slices.SortFunc(l, Wide.Cmp)
	for i := range l {
		for k := range i {
			if Less(l[i], l[k]) {
				t.Fatalf("%v stands ahead of %v", l[k], l[i])
			}
		}
	}
}
