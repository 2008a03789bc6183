package node_test

import (
	"crypto/sha256"
	"math"
	"math/big"
	"math/rand/v2"
	"slices"
	"strconv"
	"strings"
	"testing"
	"unsafe"

	"paymaster/api"
	"paymaster/node"
	"paymaster/tag"
)

const top = math.MaxUint64

func num(hi, lo uint64) api.U128 { return api.U128{Hi: hi, Lo: lo} }

// asBig tells a number without end, so that the package is held against arithmetic that isn't the program's.
func asBig(a api.U128) *big.Int {
	n := new(big.Int).Lsh(new(big.Int).SetUint64(a.Hi), 64)
	return n.Or(n, new(big.Int).SetUint64(a.Lo))
}

// fits tells whether there is room for the number in 128 bits.
func fits(n *big.Int) bool { return n.Sign() >= 0 && n.BitLen() <= 128 }

// asNum tells a number that fits.
func asNum(n *big.Int) api.U128 {
	lo := new(big.Int).And(n, new(big.Int).SetUint64(top))
	return num(new(big.Int).Rsh(n, 64).Uint64(), lo.Uint64())
}

// sumOf tells the sum of all, without end.
func sumOf(l []api.Node) *big.Int {
	sum := new(big.Int)
	for _, n := range l {
		sum.Add(sum, asBig(n.Sum))
	}
	return sum
}

// bytesOf tells a number's 16 bytes.
func bytesOf(a api.U128) string { return string(asBig(a).FillBytes(make([]byte, 16))) }

// told is what a call tells.
type told struct {
	n api.Node
	e api.Errno
}

func tell(n api.Node, e api.Errno) told { return told{n, e} }

// is tells whether the node is of the width, by the document's words.
func is(width int, n api.Node) bool { return width >= 1 && width <= 32 && len(n.Hash) == width }

// allAre tells whether the width may be, and all are of it.
func allAre(width int, l []api.Node) bool {
	return width >= 1 && width <= 32 && !slices.ContainsFunc(l, func(n api.Node) bool { return len(n.Hash) != width })
}

// wantTwo tells what two nodes of the width must come to, by the document's words and the library's SHA-256.
func wantTwo(width int, l, r api.Node) told {
	sum := new(big.Int).Add(asBig(l.Sum), asBig(r.Sum))
	if !fits(sum) {
		return told{e: api.ErrSum}
	}
	d := sha256.Sum256([]byte("\x01" + l.Hash + bytesOf(l.Sum) + r.Hash + bytesOf(r.Sum)))
	return told{n: api.Node{Hash: string(d[:width]), Sum: asNum(sum)}}
}

// wantJoin tells what Join must tell.
func wantJoin(width int, l, r api.Node) told {
	if !is(width, l) || !is(width, r) {
		return told{e: api.ErrWidth}
	}
	return wantTwo(width, l, r)
}

// wantClimb tells what Climb must tell.
func wantClimb(width int, n api.Node, position uint64, sides []api.Node) told {
	switch {
	case !is(width, n) || !allAre(width, sides):
		return told{e: api.ErrWidth}
	case len(sides) > 63:
		return told{e: api.ErrArg}
	}
	at := told{n: n}
	for _, side := range sides {
		if position%2 == 0 {
			at = wantTwo(width, at.n, side)
		} else {
			at = wantTwo(width, side, at.n)
		}
		if at.e != api.OK {
			return at
		}
		position /= 2
	}
	return at
}

// wantFold tells what Fold must tell: of a row of 2^k, its halves' folds as one.
func wantFold(width int, l []api.Node) told {
	half := 1
	for half*2 < len(l) {
		half *= 2
	}
	switch {
	case !allAre(width, l):
		return told{e: api.ErrWidth}
	case len(l) == 1:
		return told{n: l[0]}
	case len(l) != half*2:
		return told{e: api.ErrArg}
	}
	a, b := wantFold(width, l[:half]), wantFold(width, l[half:])
	if a.e != api.OK || b.e != api.OK {
		return told{e: api.ErrSum}
	}
	return wantTwo(width, a.n, b.n)
}

// picker tells what chance (always the same one, of that seed) picks.
func picker(seed uint64) *rand.Rand { return rand.New(rand.NewPCG(14, seed)) }

// pickHash tells n bytes that chance picks.
func pickHash(r *rand.Rand, n int) string {
	b := make([]byte, n)
	for i := range b {
		b[i] = byte(r.Uint32())
	}
	return string(b)
}

// pickNode tells a node of that many bytes, with so small a sum that there is room for 2^16 of them.
func pickNode(r *rand.Rand, width int) api.Node {
	return api.Node{Hash: pickHash(r, width), Sum: num(r.Uint64()>>(16+r.UintN(48)), r.Uint64())}
}

// pickRow tells n such nodes.
func pickRow(r *rand.Rand, width, n int) []api.Node {
	l := make([]api.Node, n)
	for i := range l {
		l[i] = pickNode(r, width)
	}
	return l
}

// positions are those about the bits' edges, and some that chance picks.
func positions() []uint64 {
	l := []uint64{0, 1, 2, 3, 5, 10, 0x5555555555555555, 0xaaaaaaaaaaaaaaaa, 1<<62 - 1, 1 << 62, 1<<63 - 1, 1 << 63, 1<<63 + 1, top - 1, top}
	r := picker(1)
	for range 8 {
		l = append(l, r.Uint64())
	}
	return l
}

// wrongWidths are widths that may not be.
func wrongWidths() []int {
	return []int{0, -1, -2, -32, -33, 33, 34, 64, 255, 256, 257, 1 << 31, 1<<32 + 1, 1<<32 + 32, math.MaxInt, math.MinInt, math.MinInt + 4}
}

// shown tells it for a message: the digest's beginning, without bytes that nobody can read.
func shown(x told) string {
	hash := x.n.Hash[:min(len(x.n.Hash), 40)]
	return strconv.QuoteToASCII(hash) + " " + asBig(x.n.Sum).String() + " error " + strconv.Itoa(int(x.e))
}

func checkJoin(t *testing.T, width int, l, r api.Node) {
	t.Helper()
	if got, want := tell(node.Join(width, l, r)), wantJoin(width, l, r); got != want {
		t.Fatalf("Join(%d, %s, %s): %s, not %s", width, shown(told{n: l}), shown(told{n: r}), shown(got), shown(want))
	}
}

func checkClimb(t *testing.T, width int, n api.Node, position uint64, sides []api.Node) {
	t.Helper()
	if got, want := tell(node.Climb(width, n, position, sides)), wantClimb(width, n, position, sides); got != want {
		t.Fatalf("Climb(%d, %s, %d, of %d): %s, not %s", width, shown(told{n: n}), position, len(sides), shown(got), shown(want))
	}
}

func checkFold(t *testing.T, width int, l []api.Node) {
	t.Helper()
	if got, want := tell(node.Fold(width, l)), wantFold(width, l); got != want {
		t.Fatalf("Fold(%d, of %d): %s, not %s", width, len(l), shown(got), shown(want))
	}
}

// P14.1
func TestOf(t *testing.T) {
	r := picker(2)
	widths := append(wrongWidths(), 1, 2, 3, 4, 8, 16, 31, 32)
	for width := -3; width <= 40; width++ {
		widths = append(widths, width)
	}
	for _, width := range widths {
		for size := range 70 {
			n := pickNode(r, size)
			if got, want := node.Of(width, n), size >= 1 && size <= 32 && size == width; got != want {
				t.Errorf("Of(%d, of %d bytes): %v", width, size, got)
			}
		}
		// A great size that comes round to a lesser one is no width either.
		for _, size := range []int{255, 256, 257, 1 << 16, 1<<16 + 4} {
			if node.Of(width, api.Node{Hash: strings.Repeat("x", size)}) {
				t.Errorf("Of(%d, of %d bytes): yes", width, size)
			}
		}
	}
}

// P14.1: bytes are counted, not runes; the sum doesn't matter.
func TestOfCountsBytes(t *testing.T) {
	for _, x := range []struct {
		width int
		hash  string
		want  bool
	}{{2, "ä", true}, {1, "ä", false}, {3, "€", true}, {1, "€", false}, {1, "\xff", true}, {4, "\x00\x00\x00\x00", true}, {4, "🙂", true}, {1, "🙂", false}, {0, "", false}, {1, "", false}} {
		for _, sum := range []api.U128{{}, num(0, 1), num(1, 0), num(top, top)} {
			if got := node.Of(x.width, api.Node{Hash: x.hash, Sum: sum}); got != x.want {
				t.Errorf("Of(%d, %q): %v", x.width, x.hash, got)
			}
		}
	}
}

// P14.1: the document's examples, and a digest that was worked out elsewhere.
func TestJoinExamples(t *testing.T) {
	three, four := api.Node{Hash: "abcd", Sum: num(0, 3)}, api.Node{Hash: "efgh", Sum: num(0, 4)}
	n, e := node.Join(4, three, four)
	if e != api.OK || n.Sum != num(0, 7) {
		t.Error(shown(told{n, e}))
	}
	text := "\x01abcd" + strings.Repeat("\x00", 15) + "\x03efgh" + strings.Repeat("\x00", 15) + "\x04"
	if d := sha256.Sum256([]byte(text)); n.Hash != string(d[:4]) {
		t.Errorf("%q, not %q", n.Hash, d[:4])
	}
	if got := tell(node.Join(4, api.Node{Hash: "abcd", Sum: num(top, top)}, api.Node{Hash: "abcd", Sum: num(0, 1)})); got != (told{e: api.ErrSum}) {
		t.Error(shown(got))
	}
}

// P14.1: all widths, with sums at all edges.
func TestJoin(t *testing.T) {
	r := picker(3)
	halves := []uint64{0, 1, 2, 255, 256, 1<<32 - 1, 1 << 32, 1<<63 - 1, 1 << 63, top - 1, top}
	var sums []api.U128
	for _, hi := range halves {
		for _, lo := range halves {
			sums = append(sums, num(hi, lo))
		}
	}
	for _, a := range sums {
		for _, b := range sums {
			width := 1 + r.IntN(32)
			checkJoin(t, width, api.Node{Hash: pickHash(r, width), Sum: a}, api.Node{Hash: pickHash(r, width), Sum: b})
		}
	}
	for width := 1; width <= 32; width++ {
		for range 40 {
			a, b := pickNode(r, width), pickNode(r, width)
			checkJoin(t, width, a, b)
			checkJoin(t, width, b, a)
			checkJoin(t, width, a, a)
		}
	}
}

// P14.1: there is room up to the greatest number, and none for one more.
func TestJoinAtTheEdge(t *testing.T) {
	for _, a := range []api.U128{{}, num(0, 1), num(0, top), num(1, 0), num(1<<63, 0), num(1<<63, 1), num(top, 0), num(top, top-1), num(top, top)} {
		most := asNum(new(big.Int).Sub(asBig(num(top, top)), asBig(a)))
		for _, turned := range []bool{false, true} {
			l, r := api.Node{Hash: "ab", Sum: a}, api.Node{Hash: "cd", Sum: most}
			if turned {
				l.Sum, r.Sum = r.Sum, l.Sum
			}
			if n, e := node.Join(2, l, r); e != api.OK || n.Sum != num(top, top) {
				t.Errorf("%v and %v: %v %d", l.Sum, r.Sum, n.Sum, e)
			}
			if r.Sum == num(top, top) {
				continue
			}
			r.Sum = asNum(new(big.Int).Add(asBig(r.Sum), big.NewInt(1)))
			if got := tell(node.Join(2, l, r)); got != (told{e: api.ErrSum}) {
				t.Errorf("%v and %v: %s", l.Sum, r.Sum, shown(got))
			}
		}
	}
}

// P14.1: which one is left matters; so do both digests and both sums.
func TestJoinOfUnlikeOnes(t *testing.T) {
	r := picker(4)
	for width := 8; width <= 32; width++ {
		a, b := pickNode(r, width), pickNode(r, width)
		was, _ := node.Join(width, a, b)
		others := [][2]api.Node{{b, a}, {a, a}, {b, b}}
		for _, at := range []int{0, 1} {
			for place := range width {
				x := [2]api.Node{a, b}
				hash := []byte(x[at].Hash)
				hash[place] ^= 1
				x[at].Hash = string(hash)
				others = append(others, x)
			}
			hi, lo := [2]api.Node{a, b}, [2]api.Node{a, b}
			hi[at].Sum.Hi ^= 1
			lo[at].Sum.Lo ^= 1
			others = append(others, hi, lo)
		}
		// The same sum of both, shared out in another way.
		moved := [2]api.Node{{Hash: a.Hash, Sum: num(0, 5)}, {Hash: b.Hash, Sum: num(0, 7)}}
		others = append(others, moved, [2]api.Node{{Hash: a.Hash, Sum: num(0, 7)}, {Hash: b.Hash, Sum: num(0, 5)}})
		seen := map[string]int{was.Hash: -1}
		for i, x := range others {
			n, e := node.Join(width, x[0], x[1])
			if e != api.OK {
				t.Fatalf("%d: error %d", i, e)
			}
			if j, is := seen[n.Hash]; is {
				t.Errorf("width %d: the digests of %d and %d are the same", width, i, j)
			}
			seen[n.Hash] = i
		}
	}
}

// P14.1: a width that may not be, a node that isn't of it, at either place, and told ahead of a sum without room.
func TestJoinOfWrongWidths(t *testing.T) {
	refused := told{e: api.ErrWidth}
	for _, width := range wrongWidths() {
		for _, size := range []int{0, 1, 4, 32, 33, 34, 64, 255, 256, 257} {
			n := api.Node{Hash: strings.Repeat("x", size), Sum: num(top, top)}
			if got := tell(node.Join(width, n, n)); got != refused {
				t.Errorf("width %d, of %d bytes: %s", width, size, shown(got))
			}
		}
	}
	r := picker(5)
	for width := 1; width <= 32; width++ {
		for size := range 40 {
			if size == width {
				continue
			}
			good, bad := pickNode(r, width), pickNode(r, size)
			full := api.Node{Hash: good.Hash, Sum: num(top, top)}
			for i, x := range [][2]api.Node{{good, bad}, {bad, good}, {bad, bad}, {full, bad}, {bad, full}} {
				if got := tell(node.Join(width, x[0], x[1])); got != refused {
					t.Errorf("width %d, of %d bytes, %d: %s", width, size, i, shown(got))
				}
			}
		}
	}
}

// P14.2: all heights, at positions with bits of all kinds.
func TestClimb(t *testing.T) {
	r := picker(6)
	for height := range 64 {
		for _, position := range positions() {
			width := 1 + r.IntN(32)
			checkClimb(t, width, pickNode(r, width), position, pickRow(r, width, height))
		}
	}
	for width := 1; width <= 32; width++ {
		for position := range uint64(16) {
			checkClimb(t, width, pickNode(r, width), position, pickRow(r, width, 4))
		}
	}
}

// P14.2: each bit alone turns its own level, and no other one.
func TestClimbTurnsByBits(t *testing.T) {
	r := picker(7)
	n, sides := pickNode(r, 32), pickRow(r, 32, 63)
	seen := map[api.Node]uint64{}
	for level := range 63 {
		for _, position := range []uint64{1 << level, 1<<63 - 1 ^ 1<<level} {
			checkClimb(t, 32, n, position, sides)
			got, _ := node.Climb(32, n, position, sides)
			if other, is := seen[got]; is {
				t.Errorf("positions %d and %d come to the same", position, other)
			}
			seen[got] = position
		}
	}
}

// P14.2: at a bit of 0 the side stands right.
func TestClimbExamples(t *testing.T) {
	n, side := api.Node{Hash: "ab", Sum: num(0, 3)}, api.Node{Hash: "cd", Sum: num(0, 4)}
	above := api.Node{Hash: "ef", Sum: num(0, 5)}
	left, right := wantTwo(2, n, side).n, wantTwo(2, side, n).n
	for position, want := range []api.Node{wantTwo(2, left, above).n, wantTwo(2, right, above).n, wantTwo(2, above, left).n, wantTwo(2, above, right).n} {
		got, e := node.Climb(2, n, uint64(position), []api.Node{side, above})
		if e != api.OK || got != want || got.Sum != num(0, 12) {
			t.Errorf("%d: %s, not %s", position, shown(told{got, e}), shown(told{n: want}))
		}
	}
}

// P14.2: bits above the sides don't matter.
func TestClimbWithBitsAbove(t *testing.T) {
	r := picker(8)
	for height := range 64 {
		n, sides := pickNode(r, 4), pickRow(r, 4, height)
		low := r.Uint64() & (1<<height - 1)
		want := tell(node.Climb(4, n, low, sides))
		if want.e != api.OK {
			t.Fatalf("height %d: error %d", height, want.e)
		}
		for bit := height; bit < 64; bit++ {
			if got := tell(node.Climb(4, n, low|1<<bit, sides)); got != want {
				t.Errorf("height %d, bit %d: %s, not %s", height, bit, shown(got), shown(want))
			}
		}
		if got := tell(node.Climb(4, n, low|^uint64(0)<<height, sides)); got != want {
			t.Errorf("height %d, all bits: %s, not %s", height, shown(got), shown(want))
		}
	}
}

// P14.2: by no sides one stays where one is.
func TestClimbByNone(t *testing.T) {
	for _, sum := range []api.U128{{}, num(0, 7), num(top, top)} {
		n := api.Node{Hash: "abc", Sum: sum}
		for _, position := range positions() {
			for _, sides := range [][]api.Node{nil, {}} {
				if got := tell(node.Climb(3, n, position, sides)); got != (told{n: n}) {
					t.Errorf("position %d: %s", position, shown(got))
				}
			}
		}
	}
}

// P14.2: of a wrong width, be it the width's own fault, the node's, or one side's, wherever that is.
func TestClimbOfWrongWidths(t *testing.T) {
	r := picker(9)
	refused := told{e: api.ErrWidth}
	for _, width := range wrongWidths() {
		for _, size := range []int{0, 1, 32, 33, 64, 255, 256} {
			n := pickNode(r, size)
			for _, sides := range [][]api.Node{nil, {n}, {n, n}} {
				if got := tell(node.Climb(width, n, 0, sides)); got != refused {
					t.Errorf("width %d, of %d bytes, %d sides: %s", width, size, len(sides), shown(got))
				}
			}
		}
	}
	for _, width := range []int{1, 4, 31, 32} {
		for _, size := range []int{0, width - 1, width + 1, 32 + width} {
			bad := pickNode(r, size)
			if got := tell(node.Climb(width, bad, 0, nil)); got != refused {
				t.Errorf("width %d, a node of %d bytes: %s", width, size, shown(got))
			}
			for _, height := range []int{1, 2, 63} {
				good, sides := pickNode(r, width), pickRow(r, width, height)
				if got := tell(node.Climb(width, bad, 0, sides)); got != refused {
					t.Errorf("width %d, a node of %d bytes, %d sides: %s", width, size, height, shown(got))
				}
				for at := range sides {
					wrong := slices.Clone(sides)
					wrong[at] = bad
					if got := tell(node.Climb(width, good, 0, wrong)); got != refused {
						t.Errorf("width %d, the side %d of %d bytes: %s", width, at, size, shown(got))
					}
				}
			}
		}
	}
}

// P14.2: as many sides as there may be, and more.
func TestClimbByTooMany(t *testing.T) {
	r := picker(10)
	n := pickNode(r, 4)
	for _, many := range []int{64, 65, 66, 127, 128, 255, 256, 257, 1 << 16, 1<<16 + 1} {
		sides := slices.Repeat([]api.Node{{Hash: "side"}}, many)
		for _, position := range positions() {
			if got := tell(node.Climb(4, n, position, sides)); got != (told{e: api.ErrArg}) {
				t.Errorf("%d sides: %s", many, shown(got))
			}
			checkClimb(t, 4, n, position, sides[:63])
		}
	}
}

// P14.2: ErrWidth is told ahead of ErrArg, that ahead of ErrSum.
func TestClimbOrder(t *testing.T) {
	full, bad := api.Node{Hash: "full", Sum: num(top, top)}, api.Node{Hash: "bad", Sum: num(top, top)}
	for _, many := range []int{2, 63, 64, 100} {
		sides := slices.Repeat([]api.Node{full}, many)
		want := api.ErrSum
		if many > 63 {
			want = api.ErrArg
		}
		if got := tell(node.Climb(4, full, 0, sides)); got != (told{e: want}) {
			t.Errorf("%d sides: %s", many, shown(got))
		}
		if got := tell(node.Climb(4, bad, 0, sides)); got != (told{e: api.ErrWidth}) {
			t.Errorf("%d sides, a wrong node: %s", many, shown(got))
		}
		if got := tell(node.Climb(33, full, 0, sides)); got != (told{e: api.ErrWidth}) {
			t.Errorf("%d sides, a wrong width: %s", many, shown(got))
		}
		for at := range sides {
			wrong := slices.Clone(sides)
			wrong[at] = bad
			if got := tell(node.Climb(4, full, 0, wrong)); got != (told{e: api.ErrWidth}) {
				t.Errorf("%d sides, the side %d wrong: %s", many, at, shown(got))
			}
		}
	}
}

// P14.2: at each step there may be no room, from either side.
func TestClimbWithoutRoom(t *testing.T) {
	r := picker(11)
	for height := 1; height <= 63; height++ {
		for at := range height {
			n, sides := api.Node{Hash: "node", Sum: num(0, 1)}, slices.Repeat([]api.Node{{Hash: "side"}}, height)
			sides[at].Sum = num(top, top)
			for _, position := range []uint64{0, top, r.Uint64()} {
				if got := tell(node.Climb(4, n, position, sides)); got != (told{e: api.ErrSum}) {
					t.Fatalf("height %d, side %d: %s", height, at, shown(got))
				}
				n.Sum = num(0, 0)
				checkClimb(t, 4, n, position, sides)
				n.Sum = num(0, 1)
			}
		}
	}
}

// P14.3: all lengths up to a little above 2^10, and a great one.
func TestFold(t *testing.T) {
	r := picker(12)
	l := pickRow(r, 8, 1100)
	for n := range len(l) + 1 {
		checkFold(t, 8, l[:n])
		checkFold(t, 8, l[len(l)-n:])
	}
	for width := 1; width <= 32; width++ {
		for k := range 6 {
			checkFold(t, width, pickRow(r, width, 1<<k))
		}
	}
	checkFold(t, 32, pickRow(r, 32, 1<<14))
	checkFold(t, 32, pickRow(r, 32, 1<<14+1))
	checkFold(t, 32, pickRow(r, 32, 1<<14-1))
}

// P14.3
func TestFoldExamples(t *testing.T) {
	a, b := api.Node{Hash: "a", Sum: num(0, 1)}, api.Node{Hash: "b", Sum: num(0, 2)}
	c, d := api.Node{Hash: "c", Sum: num(0, 3)}, api.Node{Hash: "d", Sum: num(0, 4)}
	want := wantTwo(1, wantTwo(1, a, b).n, wantTwo(1, c, d).n)
	if got := tell(node.Fold(1, []api.Node{a, b, c, d})); got != want || got.n.Sum != num(0, 10) {
		t.Errorf("%s, not %s", shown(got), shown(want))
	}
	if got := tell(node.Fold(1, []api.Node{a, b})); got != wantTwo(1, a, b) {
		t.Error(shown(got))
	}
	for _, sum := range []api.U128{{}, num(0, 7), num(top, top)} {
		one := api.Node{Hash: "a", Sum: sum}
		if got := tell(node.Fold(1, []api.Node{one})); got != (told{n: one}) {
			t.Error(shown(got))
		}
	}
	for _, l := range [][]api.Node{nil, {}, {a, b, c}, {a, b, c, d, a}, {a, b, c, d, a, b}, {a, b, c, d, a, b, c}} {
		if got := tell(node.Fold(1, l)); got != (told{e: api.ErrArg}) {
			t.Errorf("of %d: %s", len(l), shown(got))
		}
	}
}

// P14.3: of a wrong width, be it the width's own fault, or one node's, wherever that is; of none too.
func TestFoldOfWrongWidths(t *testing.T) {
	r := picker(13)
	refused := told{e: api.ErrWidth}
	for _, width := range wrongWidths() {
		for many := range 6 {
			for _, size := range []int{0, 1, 32, 33, 64, 255, 256} {
				if got := tell(node.Fold(width, pickRow(r, size, many))); got != refused {
					t.Errorf("width %d, %d of %d bytes: %s", width, many, size, shown(got))
				}
			}
		}
		if got := tell(node.Fold(width, nil)); got != refused {
			t.Errorf("width %d, none: %s", width, shown(got))
		}
	}
	for _, width := range []int{1, 4, 31, 32} {
		if got := tell(node.Fold(width, nil)); got != (told{e: api.ErrArg}) {
			t.Errorf("width %d, none: %s", width, shown(got))
		}
		for _, size := range []int{0, width - 1, width + 1, 32 + width} {
			for _, many := range []int{1, 2, 3, 4, 5, 8, 64, 65} {
				l := pickRow(r, width, many)
				for at := range l {
					wrong := slices.Clone(l)
					wrong[at] = pickNode(r, size)
					if got := tell(node.Fold(width, wrong)); got != refused {
						t.Errorf("width %d, the node %d of %d of %d bytes: %s", width, at, many, size, shown(got))
					}
				}
			}
		}
	}
}

// P14.3: ErrWidth is told ahead of ErrArg, that ahead of ErrSum.
func TestFoldOrder(t *testing.T) {
	full, bad := api.Node{Hash: "full", Sum: num(top, top)}, api.Node{Hash: "bad", Sum: num(top, top)}
	for many := 2; many <= 70; many++ {
		l := slices.Repeat([]api.Node{full}, many)
		want := api.ErrArg
		if slices.Contains([]int{2, 4, 8, 16, 32, 64}, many) {
			want = api.ErrSum
		}
		if got := tell(node.Fold(4, l)); got != (told{e: want}) {
			t.Errorf("%d: %s", many, shown(got))
		}
		for at := range l {
			wrong := slices.Clone(l)
			wrong[at] = bad
			if got := tell(node.Fold(4, wrong)); got != (told{e: api.ErrWidth}) {
				t.Errorf("%d, the node %d wrong: %s", many, at, shown(got))
			}
		}
	}
}

// shares tells n numbers that come to the sum, as chance shares it out; of a sum without room at least two.
func shares(r *rand.Rand, sum *big.Int, n int) []api.U128 {
	l, left, most := make([]api.U128, n), new(big.Int).Set(sum), asBig(num(top, top))
	for i := range l[1:] {
		part := new(big.Int).Rsh(asBig(num(r.Uint64(), r.Uint64())), r.UintN(129))
		part.Mod(part, new(big.Int).Add(left, big.NewInt(1)))
		if over := new(big.Int).Sub(left, most); part.Cmp(over) < 0 {
			part = over
		}
		l[i] = asNum(part)
		left.Sub(left, part)
	}
	l[n-1] = asNum(left)
	r.Shuffle(n, func(i, j int) { l[i], l[j] = l[j], l[i] })
	return l
}

// withSums tells a row of nodes with these sums.
func withSums(r *rand.Rand, width int, sums []api.U128) []api.Node {
	l := make([]api.Node, len(sums))
	for i, s := range sums {
		l[i] = api.Node{Hash: pickHash(r, width), Sum: s}
	}
	return l
}

// checkSum holds what is told against the sum of all without end.
func checkSum(t *testing.T, what string, got told, l []api.Node) {
	t.Helper()
	sum := sumOf(l)
	switch {
	case !fits(sum) && got != (told{e: api.ErrSum}):
		t.Errorf("%s of %d, which have no room: %s", what, len(l), shown(got))
	case fits(sum) && (got.e != api.OK || asBig(got.n.Sum).Cmp(sum) != 0):
		t.Errorf("%s of %d: %s, not %s", what, len(l), shown(got), sum)
	}
}

// P14.4: sums about the greatest number there is room for, shared out by chance among all that are joined.
func TestSums(t *testing.T) {
	r := picker(14)
	most := asBig(num(top, top))
	for k := range 7 {
		n := 1 << k
		for _, more := range []int64{-2, -1, 0, 1, 2, 1 << 40} {
			for range 8 {
				sum := new(big.Int).Add(most, big.NewInt(more))
				if n == 1 && more > 0 {
					continue
				}
				l := withSums(r, 4, shares(r, sum, n))
				checkSum(t, "Fold", tell(node.Fold(4, l)), l)
				checkSum(t, "Climb", tell(node.Climb(4, l[0], r.Uint64(), l[1:])), l)
			}
		}
	}
	for range 400 {
		l := withSums(r, 4, shares(r, asBig(num(r.Uint64()>>r.UintN(64), r.Uint64())), 1<<r.IntN(7)))
		checkSum(t, "Fold", tell(node.Fold(4, l)), l)
		checkSum(t, "Climb", tell(node.Climb(4, l[0], r.Uint64(), l[1:])), l)
	}
}

// P14.4: two nodes that have no room together, wherever both are; one less, and there is.
func TestSumsOfEachTwo(t *testing.T) {
	for _, n := range []int{2, 4, 8, 32} {
		for i := range n {
			for j := range n {
				if i == j {
					continue
				}
				l := slices.Repeat([]api.Node{{Hash: "node"}}, n)
				l[i].Sum, l[j].Sum = num(1<<63, 0), num(1<<63, 0)
				checkSum(t, "Fold", tell(node.Fold(4, l)), l)
				checkSum(t, "Climb", tell(node.Climb(4, l[0], uint64(i*j), l[1:])), l)
				l[j].Sum = num(1<<63-1, top)
				checkSum(t, "Fold", tell(node.Fold(4, l)), l)
				checkSum(t, "Climb", tell(node.Climb(4, l[0], uint64(i*j), l[1:])), l)
			}
		}
	}
}

// P14.4: whatever the order, there is room or none, and the same sum.
func TestSumsInAnyOrder(t *testing.T) {
	r := picker(15)
	for _, more := range []int64{0, 1} {
		l := withSums(r, 4, shares(r, new(big.Int).Add(asBig(num(top, top)), big.NewInt(more)), 16))
		for range 100 {
			r.Shuffle(len(l), func(i, j int) { l[i], l[j] = l[j], l[i] })
			checkSum(t, "Fold", tell(node.Fold(4, l)), l)
			checkSum(t, "Climb", tell(node.Climb(4, l[0], r.Uint64(), l[1:])), l)
		}
	}
}

// beside tells the folded blocks beside a place of a row of 2^k, from the lowest level on.
func beside(t *testing.T, width int, l []api.Node, place int) []api.Node {
	t.Helper()
	var sides []api.Node
	for size := 1; size < len(l); size *= 2 {
		from := (place/size ^ 1) * size
		n, e := node.Fold(width, l[from:from+size])
		if e != api.OK {
			t.Fatalf("the block of %d from %d on: error %d", size, from, e)
		}
		sides = append(sides, n)
	}
	return sides
}

// P14.5: from each place, with whatever bits above.
func TestFoldedAndClimbed(t *testing.T) {
	r := picker(16)
	for k := range 8 {
		for _, width := range []int{1, 2, 16, 32} {
			l := pickRow(r, width, 1<<k)
			want := tell(node.Fold(width, l))
			if want.e != api.OK {
				t.Fatalf("of 2^%d: error %d", k, want.e)
			}
			for place, n := range l {
				sides := beside(t, width, l, place)
				for _, position := range []uint64{uint64(place), uint64(place) | r.Uint64()<<k} {
					if got := tell(node.Climb(width, n, position, sides)); got != want {
						t.Errorf("of 2^%d, from %d: %s, not %s", k, place, shown(got), shown(want))
					}
				}
			}
		}
	}
}

// P14.5: with a full sum at one place, and where there is no room for all.
func TestFoldedAndClimbedAtTheEdge(t *testing.T) {
	for k := 1; k <= 4; k++ {
		for full := range 1 << k {
			l := slices.Repeat([]api.Node{{Hash: "node"}}, 1<<k)
			l[full].Sum = num(top, top)
			want := tell(node.Fold(4, l))
			for place, n := range l {
				sides := beside(t, 4, l, place)
				if got := tell(node.Climb(4, n, uint64(place), sides)); got != want || got.n.Sum != num(top, top) {
					t.Errorf("of 2^%d, from %d: %s, not %s", k, place, shown(got), shown(want))
				}
				if place == full {
					continue
				}
				n.Sum = num(0, 1)
				if got := tell(node.Climb(4, n, uint64(place), sides)); got != (told{e: api.ErrSum}) {
					t.Errorf("of 2^%d, from %d: %s", k, place, shown(got))
				}
			}
		}
	}
}

// P14.6: what is folded is both halves' folds as one.
func TestHalves(t *testing.T) {
	r := picker(17)
	for k := 1; k <= 10; k++ {
		for _, width := range []int{1, 7, 32} {
			for _, most := range []bool{false, true} {
				l := pickRow(r, width, 1<<k)
				if most {
					l = withSums(r, width, shares(r, asBig(num(top, top)), 1<<k))
				}
				a, e := node.Fold(width, l[:len(l)/2])
				b, f := node.Fold(width, l[len(l)/2:])
				want := tell(node.Join(width, a, b))
				if got := tell(node.Fold(width, l)); got != want || e != api.OK || f != api.OK || got.e != api.OK {
					t.Errorf("of 2^%d: %s, not %s; %d %d", k, shown(got), shown(want), e, f)
				}
			}
		}
	}
}

// P14.6: where halves have no room, the whole has none.
func TestHalvesWithoutRoom(t *testing.T) {
	for k := 2; k <= 6; k++ {
		for _, at := range []int{0, 1<<k - 2, 1<<(k-1) - 2, 1 << (k - 1), 1<<(k-1) - 1} {
			l := slices.Repeat([]api.Node{{Hash: "node"}}, 1<<k)
			l[at].Sum, l[at+1].Sum = num(top, top), num(0, 1)
			a := tell(node.Fold(4, l[:len(l)/2]))
			b := tell(node.Fold(4, l[len(l)/2:]))
			want := tell(node.Join(4, a.n, b.n))
			if a.e != api.OK || b.e != api.OK {
				want = told{e: api.ErrSum}
			}
			if got := tell(node.Fold(4, l)); got != want || got.e != api.ErrSum {
				t.Errorf("of 2^%d: %s, not %s", k, shown(got), shown(want))
			}
		}
	}
}

// P14.6: a climb by some sides, and then by others, is one by all, wherever it is cut; with room and without.
func TestClimbsOneBehindTheOther(t *testing.T) {
	r := picker(18)
	for _, height := range []int{0, 1, 2, 3, 7, 32, 62, 63} {
		for round := range 6 {
			n, sides, position := pickNode(r, 5), pickRow(r, 5, height), r.Uint64()
			if round%2 == 1 && height > 0 {
				sides[r.IntN(height)].Sum = num(top, top)
			}
			want := tell(node.Climb(5, n, position, sides))
			if round%2 == 0 && want.e != api.OK || round%2 == 1 && height > 0 && want.e != api.ErrSum {
				t.Fatalf("height %d: %s", height, shown(want))
			}
			for cut := range height + 1 {
				got := tell(node.Climb(5, n, position, sides[:cut]))
				if got.e == api.OK {
					got = tell(node.Climb(5, got.n, position>>cut, sides[cut:]))
				}
				if got != want {
					t.Errorf("height %d, cut at %d: %s, not %s", height, cut, shown(got), shown(want))
				}
			}
		}
	}
}

// The nodes of leaves, as other layers hand them in, are joined as any others; a pad adds nothing.
func TestOfLeaves(t *testing.T) {
	for _, width := range []int{1, 4, 32} {
		a := tag.LeafNode(width, api.Leaf{Id: "a", Salt: "s", Balance: num(0, 5)})
		pad := tag.LeafNode(width, api.Leaf{Pad: true, Salt: "p"})
		checkJoin(t, width, a, pad)
		checkJoin(t, width, pad, a)
		n, e := node.Join(width, a, pad)
		if e != api.OK || n.Sum != num(0, 5) || n.Hash != tag.Digest(width, tag.NodeText(a, pad)) {
			t.Errorf("width %d: %s", width, shown(told{n, e}))
		}
	}
	// The node of a leaf that may not be is of no width.
	if got := tell(node.Join(4, tag.LeafNode(4, api.Leaf{}), tag.LeafNode(4, api.Leaf{Pad: true}))); got != (told{e: api.ErrWidth}) {
		t.Error(shown(got))
	}
}

// What is handed in stays as it is, and so does what lies behind it in the same memory.
func TestNothingIsChanged(t *testing.T) {
	r := picker(19)
	for _, full := range []bool{false, true} {
		for many := range 70 {
			memory := pickRow(r, 4, many+8)
			if full {
				memory[many/2].Sum = num(top, top)
			}
			was := slices.Clone(memory)
			first, firstErr := node.Fold(4, memory[:many])
			second, secondErr := node.Climb(4, memory[many], r.Uint64(), memory[:many])
			if !slices.Equal(memory, was) {
				t.Fatalf("of %d: changed", many)
			}
			// What was told once is told again.
			again, againErr := node.Fold(4, memory[:many])
			if again != first || againErr != firstErr {
				t.Errorf("of %d: %s, then %s", many, shown(told{first, firstErr}), shown(told{again, againErr}))
			}
			if (firstErr != api.OK && first != api.Node{}) || (secondErr != api.OK && second != api.Node{}) {
				t.Errorf("of %d: a node beside an error", many)
			}
		}
	}
}

// inside tells whether the text's memory is within the whole's.
func inside(s, whole string) bool {
	at, from := uintptr(unsafe.Pointer(unsafe.StringData(s))), uintptr(unsafe.Pointer(unsafe.StringData(whole)))
	return at >= from && at < from+uintptr(len(whole))
}

// What is told is the caller's own, also where nothing is joined.
func TestMemoryOfItsOwn(t *testing.T) {
	whole := strings.Clone("abcdefgh")
	a, b := api.Node{Hash: whole[:4]}, api.Node{Hash: whole[4:]}
	for i, of := range []func() (api.Node, api.Errno){
		func() (api.Node, api.Errno) { return node.Join(4, a, b) },
		func() (api.Node, api.Errno) { return node.Climb(4, b, 0, nil) },
		func() (api.Node, api.Errno) { return node.Climb(4, b, 0, []api.Node{a}) },
		func() (api.Node, api.Errno) { return node.Fold(4, []api.Node{b}) },
		func() (api.Node, api.Errno) { return node.Fold(4, []api.Node{a, b}) },
	} {
		n, e := of()
		if e != api.OK || len(n.Hash) != 4 || inside(n.Hash, whole) {
			t.Errorf("%d: %s", i, shown(told{n, e}))
		}
	}
}
