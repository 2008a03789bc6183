package proof_test

import (
	"crypto/sha256"
	"math"
	"math/big"
	"math/rand/v2"
	"slices"
	"strconv"
	"strings"
	"testing"
	"unsafe"

	"paymaster/api"
	"paymaster/node"
	"paymaster/proof"
	"paymaster/tag"
	"paymaster/tree"
)

const top = math.MaxUint64

func num(hi, lo uint64) api.U128 { return api.U128{Hi: hi, Lo: lo} }

// picker tells what chance (always the same one, of that seed) picks.
func picker(seed uint64) *rand.Rand { return rand.New(rand.NewPCG(16, seed)) }

// pickText tells n bytes that chance picks.
func pickText(r *rand.Rand, n int) string {
	b := make([]byte, n)
	for i := range b {
		b[i] = byte(r.Uint32())
	}
	return string(b)
}

// pickLeaf tells a leaf that may be, with so small a balance that there is room for 2^16 of them.
func pickLeaf(r *rand.Rand) api.Leaf {
	salt := pickText(r, r.IntN(33))
	if r.IntN(3) == 0 {
		return api.Leaf{Pad: true, Salt: salt}
	}
	return api.Leaf{Id: "id" + strconv.Itoa(r.IntN(1000)), Salt: salt, Balance: num(r.Uint64()>>(16+r.UintN(49)), r.Uint64()>>r.UintN(65))}
}

// pickLeaves tells the leaves of a tree of that height.
func pickLeaves(r *rand.Rand, height int) []api.Leaf {
	l := make([]api.Leaf, 1<<height)
	for i := range l {
		l[i] = pickLeaf(r)
	}
	return l
}

// pickPositions tells some positions of a tree of that height: all of a low one.
func pickPositions(r *rand.Rand, height int) []uint64 {
	last := uint64(1)<<height - 1
	if height > 5 {
		return []uint64{0, 1, 2, last / 2, last/2 + 1, last - 1, last, r.Uint64N(last), r.Uint64N(last)}
	}
	var l []uint64
	for position := range last + 1 {
		l = append(l, position)
	}
	return l
}

// beyond are positions that no tree of that height has.
func beyond(height int) []uint64 {
	n := uint64(1) << height
	return []uint64{n, n + 1, 2 * n, 1 << 11, 1 << 31, 1 << 32, 1<<32 + n - 1, 1<<63 - 1, 1 << 63, 1<<63 + n - 1, top - 1, top}
}

// mustTree tells the tree of leaves of which there is one.
func mustTree(t *testing.T, width int, l []api.Leaf) *tree.Tree {
	t.Helper()
	x, e := tree.New(width, l)
	if e != api.OK {
		t.Fatalf("a tree of the width %d, of %d leaves: error %d", width, len(l), e)
	}
	return x
}

// mustOf tells the entry of a position that the tree has.
func mustOf(t *testing.T, x *tree.Tree, position uint64) api.Entry {
	t.Helper()
	e, f := proof.Of(x, position)
	if f != api.OK {
		t.Fatalf("Of(%d), of the height %d: error %d", position, x.Height(), f)
	}
	return e
}

// mustSet sets a leaf that may be set.
func mustSet(t *testing.T, x *tree.Tree, position uint64, l api.Leaf) {
	t.Helper()
	if e := x.Set(position, l); e != api.OK {
		t.Fatalf("Set(%d, %#v): error %d", position, l, e)
	}
}

// equal tells whether two entries are the same, without the package's own word for it.
func equal(a, b api.Entry) bool {
	if a.Leaf.Pad != b.Leaf.Pad || a.Leaf.Id != b.Leaf.Id || a.Leaf.Salt != b.Leaf.Salt || a.Leaf.Balance != b.Leaf.Balance {
		return false
	}
	if a.Proof.Position != b.Proof.Position || len(a.Proof.Sides) != len(b.Proof.Sides) {
		return false
	}
	for i, side := range a.Proof.Sides {
		if side.Hash != b.Proof.Sides[i].Hash || side.Sum != b.Proof.Sides[i].Sum {
			return false
		}
	}
	return true
}

// wantOf tells the entry of a position: each side is what layer 14 folds the leaves of the block to that stands beside the position's.
func wantOf(t *testing.T, width int, l []api.Leaf, position int) api.Entry {
	t.Helper()
	want := api.Entry{Leaf: l[position], Proof: api.Proof{Position: uint64(position)}}
	for size := 1; size < len(l); size *= 2 {
		from := position / size * size
		if position/size%2 == 0 {
			from += size
		} else {
			from -= size
		}
		var nodes []api.Node
		for _, one := range l[from : from+size] {
			nodes = append(nodes, tag.LeafNode(width, one))
		}
		side, e := node.Fold(width, nodes)
		if e != api.OK {
			t.Fatalf("the test's own fold: error %d", e)
		}
		want.Proof.Sides = append(want.Proof.Sides, side)
	}
	return want
}

// checkOf holds the entries of those positions against what they must be.
func checkOf(t *testing.T, what string, x *tree.Tree, l []api.Leaf, positions []uint64) {
	t.Helper()
	for _, position := range positions {
		want := wantOf(t, x.Width(), l, int(position))
		if got, e := proof.Of(x, position); e != api.OK || !equal(got, want) {
			t.Fatalf("%s: height %d, Of(%d): error %d, %#v, not %#v", what, x.Height(), position, e, got, want)
		}
	}
}

// P16.1: the document's example, by the library's SHA-256.
func TestExample(t *testing.T) {
	var l []api.Leaf
	var nodes []api.Node
	sixteen := func(n byte) string { return strings.Repeat("\x00", 15) + string([]byte{n}) }
	for i, id := range []string{"a", "b", "c", "d"} {
		n := byte(i + 1)
		l = append(l, api.Leaf{Id: id, Salt: "s", Balance: num(0, uint64(n))})
		d := sha256.Sum256([]byte("\x00\x01" + id + "\x01s" + sixteen(n)))
		nodes = append(nodes, api.Node{Hash: string(d[:]), Sum: num(0, uint64(n))})
	}
	d := sha256.Sum256([]byte("\x01" + nodes[0].Hash + sixteen(1) + nodes[1].Hash + sixteen(2)))
	want := api.Entry{Leaf: l[2], Proof: api.Proof{Position: 2, Sides: []api.Node{nodes[3], {Hash: string(d[:]), Sum: num(0, 3)}}}}
	if got := mustOf(t, mustTree(t, 32, l), 2); !equal(got, want) {
		t.Errorf("%#v, not %#v", got, want)
	}
}

// P16.1: all heights, at all widths.
func TestOf(t *testing.T) {
	r := picker(1)
	for h := range 11 {
		for width := 1; width <= 32; width++ {
			if h > 4 && width%8 > 1 {
				continue
			}
			l := pickLeaves(r, h)
			checkOf(t, "width "+strconv.Itoa(width), mustTree(t, width, l), l, pickPositions(r, h))
		}
	}
}

// P16.1: a tree of one leaf: no sides.
func TestOfOneLeaf(t *testing.T) {
	for _, one := range []api.Leaf{{Pad: true}, {Id: "a"}, {Id: "a", Salt: "s", Balance: num(top, top)}} {
		x := mustTree(t, 1, []api.Leaf{one})
		e, all := mustOf(t, x, 0), proof.All(x)
		if e.Leaf != one || e.Proof.Position != 0 || len(e.Proof.Sides) != 0 || len(all) != 1 || !equal(all[0], e) {
			t.Errorf("%#v %#v", e, all)
		}
	}
}

// P16.1: sums of sides up to the greatest.
func TestOfGreatSums(t *testing.T) {
	for h := 1; h <= 6; h++ {
		l := slices.Repeat([]api.Leaf{{Pad: true}}, 1<<h)
		for at := range l {
			l[at] = api.Leaf{Id: "rich", Balance: num(top, top)}
			x := mustTree(t, 5, l)
			checkOf(t, "one of all", x, l, []uint64{0, uint64(at), uint64(at) ^ 1, 1<<h - 1})
			l[at] = api.Leaf{Pad: true}
		}
	}
}

// P16.1: a position that there isn't.
func TestOfBeyond(t *testing.T) {
	r := picker(2)
	for h := range 11 {
		x := mustTree(t, 3, pickLeaves(r, h))
		for _, position := range beyond(h) {
			if got, e := proof.Of(x, position); e != api.ErrArg || !equal(got, api.Entry{}) {
				t.Errorf("height %d: Of(%d): error %d, %#v", h, position, e, got)
			}
		}
	}
}

// P16.1: a tree that nobody made, nil or not; told ahead of a position that there isn't.
func TestOfNobodys(t *testing.T) {
	for i, x := range []*tree.Tree{nil, new(tree.Tree), (*tree.Tree)(nil).Copy()} {
		for _, position := range append(beyond(0), 0) {
			if got, e := proof.Of(x, position); e != api.ErrNil || !equal(got, api.Entry{}) {
				t.Errorf("%d: Of(%d): error %d, %#v", i, position, e, got)
			}
		}
		if all := proof.All(x); len(all) != 0 {
			t.Errorf("%d: %#v", i, all)
		}
	}
}

// P16.1: those of all leaves, by positions.
func TestAll(t *testing.T) {
	r := picker(3)
	for h := range 11 {
		l := pickLeaves(r, h)
		x := mustTree(t, 1+r.IntN(32), l)
		all := proof.All(x)
		if len(all) != len(l) {
			t.Fatalf("height %d: %d", h, len(all))
		}
		for position, got := range all {
			if !equal(got, mustOf(t, x, uint64(position))) {
				t.Errorf("height %d, position %d: %#v", h, position, got)
			}
		}
		for _, position := range pickPositions(r, h) {
			if want := wantOf(t, x.Width(), l, int(position)); !equal(all[position], want) {
				t.Errorf("height %d, position %d: %#v, not %#v", h, position, all[position], want)
			}
		}
	}
}

// P16.1: of a tree in which leaves were set, and of its copy, they are of the leaves that stand there now.
func TestOfOneThatWasSet(t *testing.T) {
	r := picker(4)
	for h := range 7 {
		l := pickLeaves(r, h)
		x := mustTree(t, 9, l)
		for range 5 {
			was, y := slices.Clone(l), x.Copy()
			at := r.IntN(len(l))
			l[at] = pickLeaf(r)
			mustSet(t, x, uint64(at), l[at])
			checkOf(t, "set", x, l, pickPositions(r, h))
			checkOf(t, "the copy", y, was, pickPositions(r, h))
		}
	}
}

// sidesOf tells so many sides of that many bytes; what their sums are must not matter.
func sidesOf(many, size int) []api.Node {
	return slices.Repeat([]api.Node{{Hash: strings.Repeat("h", size), Sum: num(top, top)}}, many)
}

// wantShape tells what Shape must tell, by the document's words, with numbers that have no end.
func wantShape(width, height int, p api.Proof) api.Errno {
	if height < 0 || height > 63 {
		return api.ErrHeight
	}
	if width < 1 || width > 32 {
		return api.ErrWidth
	}
	for _, side := range p.Sides {
		if len(side.Hash) != width {
			return api.ErrWidth
		}
	}
	leaves := new(big.Int).Lsh(big.NewInt(1), uint(height))
	if len(p.Sides) != height || new(big.Int).SetUint64(p.Position).Cmp(leaves) >= 0 {
		return api.ErrProof
	}
	return api.OK
}

// edgePositions are positions around the edges of a height, whether that may be or not.
func edgePositions(height int) []uint64 {
	n := uint64(1) << (uint(height) % 64)
	return []uint64{0, 1, n - 1, n, n + 1, 2 * n, n | 1<<62, n | 1<<63, 1 << 31, 1 << 32, 1 << 63, top}
}

// checkShape holds Shape against what it must tell.
func checkShape(t *testing.T, width, height int, p api.Proof) {
	t.Helper()
	if got, want := proof.Shape(width, height, p), wantShape(width, height, p); got != want {
		t.Errorf("width %d, height %d, position %d, %d sides: %d, not %d", width, height, p.Position, len(p.Sides), got, want)
	}
}

// widths and heights are some that may be, and some that may not.
func widths() []int {
	return []int{0, 1, 2, 20, 31, 32, 33, 64, 255, 256, 257, 288, -1, -32, 1<<32 + 1, math.MaxInt, math.MinInt, math.MinInt + 1}
}

func heights() []int {
	return []int{0, 1, 2, 3, 10, 11, 31, 32, 33, 62, 63, 64, 65, 127, 128, -1, -2, -63, -64, 1 << 32, 1<<32 + 1, math.MaxInt, math.MinInt, math.MinInt + 1}
}

// P16.2: widths, heights, numbers of sides and positions, each that may be and that may not, with each.
func TestShape(t *testing.T) {
	for _, width := range widths() {
		for _, height := range heights() {
			many := []int{0, 1, 2, 62, 63, 64, 65, 300}
			if height >= 0 && height < 300 {
				many = append(many, height, height+1, max(height-1, 0), height+64)
			}
			for _, n := range many {
				sides := sidesOf(n, max(min(width, 300), 0))
				for _, position := range edgePositions(height) {
					checkShape(t, width, height, api.Proof{Position: position, Sides: sides})
				}
			}
		}
	}
}

// P16.2: each height that may be has its shape, at each width, up to its last position and no further.
func TestShapeHolds(t *testing.T) {
	for height := range 64 {
		for width := 1; width <= 32; width++ {
			p := api.Proof{Position: 1<<height - 1, Sides: sidesOf(height, width)}
			if e := proof.Shape(width, height, p); e != api.OK {
				t.Errorf("width %d, height %d: %d", width, height, e)
			}
			p.Position++
			if e := proof.Shape(width, height, p); e != api.ErrProof {
				t.Errorf("width %d, height %d, behind the last position: %d", width, height, e)
			}
		}
	}
}

// checkWrongSide checks what Shape tells, where the side at that place isn't of the width.
func checkWrongSide(t *testing.T, width, height int, sides []api.Node, place, size int) {
	t.Helper()
	sides = slices.Clone(sides)
	sides[place].Hash = strings.Repeat("h", size)
	for _, position := range []uint64{0, top} {
		if e := proof.Shape(width, height, api.Proof{Position: position, Sides: sides}); e != api.ErrWidth {
			t.Errorf("width %d, height %d, position %d, a side of %d bytes at %d of %d: %d", width, height, position, size, place, len(sides), e)
		}
	}
}

// P16.2: one side that isn't of the width, wherever it stands; told ahead of sides that are too many or too few, and of the position.
func TestShapeOfWrongSides(t *testing.T) {
	for _, width := range []int{1, 2, 31, 32} {
		for _, n := range []int{1, 2, 7, 62, 63, 64, 100} {
			sides := sidesOf(n, width)
			for _, size := range []int{0, width - 1, width + 1, 2 * width, 33, width + 256} {
				for _, height := range []int{0, 1, 2, 7, 63} {
					checkWrongSide(t, width, height, sides, 0, size)
					checkWrongSide(t, width, height, sides, n/2, size)
					checkWrongSide(t, width, height, sides, n-1, size)
				}
			}
		}
	}
}

// P16.2: bytes are counted, not runes.
func TestShapeCountsBytes(t *testing.T) {
	p := api.Proof{Sides: []api.Node{{Hash: "ä\x00"}}}
	for width, want := range map[int]api.Errno{2: api.ErrWidth, 3: api.OK, 4: api.ErrWidth} {
		if e := proof.Shape(width, 1, p); e != want {
			t.Errorf("width %d: %d", width, e)
		}
	}
}

// P16.2: without sides the width is asked all the same, and the height ahead of it.
func TestShapeWithoutSides(t *testing.T) {
	for _, none := range [][]api.Node{nil, {}} {
		for _, width := range widths() {
			for _, height := range heights() {
				for _, position := range []uint64{0, 1, top} {
					checkShape(t, width, height, api.Proof{Position: position, Sides: none})
				}
			}
		}
	}
}

// spoilt tells entries each of which isn't this one, in just one thing.
func spoilt(e api.Entry) []api.Entry {
	var l []api.Entry
	add := func(change func(x *api.Entry)) {
		x := e
		x.Proof.Sides = slices.Clone(e.Proof.Sides)
		change(&x)
		l = append(l, x)
	}
	add(func(x *api.Entry) { x.Leaf.Pad = !x.Leaf.Pad })
	add(func(x *api.Entry) { x.Leaf.Id += "a" })
	add(func(x *api.Entry) { x.Leaf.Salt += "\x00" })
	add(func(x *api.Entry) { x.Leaf.Id, x.Leaf.Salt = x.Leaf.Salt+"b", x.Leaf.Id })
	add(func(x *api.Entry) { x.Leaf.Balance.Hi++ })
	add(func(x *api.Entry) { x.Leaf.Balance.Lo-- })
	add(func(x *api.Entry) { x.Proof.Position ^= 1 })
	add(func(x *api.Entry) { x.Proof.Position ^= 1 << 63 })
	add(func(x *api.Entry) { x.Proof.Sides = append(x.Proof.Sides, api.Node{}) })
	add(func(x *api.Entry) { x.Proof.Sides = slices.Insert(x.Proof.Sides, 0, api.Node{Hash: "new"}) })
	for i := range e.Proof.Sides {
		add(func(x *api.Entry) { x.Proof.Sides = slices.Delete(x.Proof.Sides, i, i+1) })
		add(func(x *api.Entry) { x.Proof.Sides = x.Proof.Sides[:i] })
		add(func(x *api.Entry) { x.Proof.Sides[i].Hash += "\x00" })
		add(func(x *api.Entry) { x.Proof.Sides[i].Hash = "\x00" + x.Proof.Sides[i].Hash[1:] + "\x01" })
		add(func(x *api.Entry) { x.Proof.Sides[i].Sum.Hi-- })
		add(func(x *api.Entry) { x.Proof.Sides[i].Sum.Lo++ })
	}
	if n := len(e.Proof.Sides); n > 1 {
		add(func(x *api.Entry) { x.Proof.Sides[0], x.Proof.Sides[n-1] = x.Proof.Sides[n-1], x.Proof.Sides[0] })
	}
	return l
}

// checkSame checks what Same tells of two entries, either way round.
func checkSame(t *testing.T, what string, a, b api.Entry, want bool) {
	t.Helper()
	if proof.Same(a, b) != want || proof.Same(b, a) != want {
		t.Errorf("%s: not %v: %#v, %#v", what, want, a, b)
	}
}

// twin tells the same entry in other memory.
func twin(e api.Entry) api.Entry {
	e.Leaf.Id, e.Leaf.Salt = strings.Clone(e.Leaf.Id), strings.Clone(e.Leaf.Salt)
	var sides []api.Node
	for _, side := range e.Proof.Sides {
		sides = append(sides, api.Node{Hash: strings.Clone(side.Hash), Sum: side.Sum})
	}
	e.Proof.Sides = sides
	return e
}

// P16.3: the same in other memory; and with one field, or one side, another one.
func TestSame(t *testing.T) {
	r := picker(5)
	for h := range 7 {
		for _, e := range proof.All(mustTree(t, 32, pickLeaves(r, h)))[:min(1<<h, 9)] {
			checkSame(t, "itself", e, e, true)
			checkSame(t, "its twin", e, twin(e), true)
			for i, x := range spoilt(e) {
				checkSame(t, "spoilt "+strconv.Itoa(i), e, x, false)
				checkSame(t, "spoilt alike "+strconv.Itoa(i), x, twin(x), true)
			}
		}
	}
}

// P16.3: no sides are no sides; whether an entry may be isn't asked.
func TestSameOfOdd(t *testing.T) {
	none, empty := api.Entry{}, api.Entry{Proof: api.Proof{Sides: []api.Node{}}}
	checkSame(t, "none and empty", none, empty, true)
	checkSame(t, "none and a zero one", none, api.Entry{Proof: api.Proof{Sides: []api.Node{{}}}}, false)
	odd := api.Entry{Leaf: api.Leaf{Pad: true, Id: "\xff", Balance: num(top, top)}, Proof: api.Proof{Position: top, Sides: sidesOf(3000, 40)}}
	checkSame(t, "odd", odd, twin(odd), true)
	checkSame(t, "odd and none", odd, none, false)
}

// P16.3: entries of which unlike things would come to the same, put together.
func TestSameField(t *testing.T) {
	for i, pair := range [][2]api.Entry{
		{{Leaf: api.Leaf{Id: "ab"}}, {Leaf: api.Leaf{Id: "a", Salt: "b"}}},
		{{Leaf: api.Leaf{Balance: num(1, 0)}}, {Leaf: api.Leaf{Balance: num(0, 1)}}},
		{{Proof: api.Proof{Sides: []api.Node{{Hash: "ab"}, {Hash: "c"}}}}, {Proof: api.Proof{Sides: []api.Node{{Hash: "a"}, {Hash: "bc"}}}}},
		{{Proof: api.Proof{Sides: []api.Node{{Sum: num(0, 1)}, {Sum: num(0, 2)}}}}, {Proof: api.Proof{Sides: []api.Node{{Sum: num(0, 2)}, {Sum: num(0, 1)}}}}},
		{{Leaf: api.Leaf{Balance: num(0, 1)}}, {Proof: api.Proof{Position: 1}}},
	} {
		checkSame(t, strconv.Itoa(i), pair[0], pair[1], false)
		checkSame(t, strconv.Itoa(i), pair[0], twin(pair[0]), true)
	}
}

// P16.3: any two of entries of few things to choose from.
func TestSameOfAnyTwo(t *testing.T) {
	r := picker(6)
	pick := func() api.Entry {
		e := api.Entry{Leaf: api.Leaf{Pad: r.IntN(9) == 0, Id: "ab"[:1+r.IntN(9)/8]}, Proof: api.Proof{Position: r.Uint64N(9) / 8}}
		for range r.IntN(3) {
			e.Proof.Sides = append(e.Proof.Sides, api.Node{Hash: "ab"[:1+r.IntN(5)/4], Sum: num(0, r.Uint64N(5)/4)})
		}
		return e
	}
	same := 0
	for range 20000 {
		a, b := pick(), pick()
		checkSame(t, "any two", a, b, equal(a, b))
		if equal(a, b) {
			same++
		}
	}
	if same < 100 || same > 19000 {
		t.Errorf("%d were the same", same)
	}
}

// P16.4: from a leaf's node, by its proof, one climbs to the root; it has the tree's shape, and no other height's.
func TestClimbs(t *testing.T) {
	r := picker(7)
	for h := range 11 {
		x := mustTree(t, 1+r.IntN(32), pickLeaves(r, h))
		root := x.Root()
		for _, e := range proof.All(x) {
			n, f := node.Climb(x.Width(), tag.LeafNode(x.Width(), e.Leaf), e.Proof.Position, e.Proof.Sides)
			if f != api.OK || n != (api.Node{Hash: root.Hash, Sum: root.Total}) {
				t.Errorf("height %d, position %d: error %d, %#v, not %#v", h, e.Proof.Position, f, n, root)
			}
			for height := range 64 {
				want := api.ErrProof
				if height == h {
					want = api.OK
				}
				if f := proof.Shape(x.Width(), height, e.Proof); f != want {
					t.Errorf("height %d as %d, position %d: %d", h, height, e.Proof.Position, f)
				}
			}
			if f := proof.Shape(x.Width()%32+1, h, e.Proof); h > 0 && f != api.ErrWidth {
				t.Errorf("height %d, another width: %d", h, f)
			}
		}
	}
}

// meet tells the level at which the ways of two positions meet.
func meet(a, b uint64) int {
	level := 0
	for ; a != b; level++ {
		a, b = a/2, b/2
	}
	return level
}

// P16.5: leaves whose ways meet at a level have the same sides from there on; below it each has at its last side what the other one is under. Of two side by side that is the other one's node, and all else is the same.
func TestBeside(t *testing.T) {
	r := picker(8)
	for h := 1; h < 8; h++ {
		x := mustTree(t, 32, pickLeaves(r, h))
		all := proof.All(x)
		for i, a := range all {
			for j, b := range all[:i] {
				level := meet(uint64(i), uint64(j))
				if !slices.Equal(a.Proof.Sides[level:], b.Proof.Sides[level:]) {
					t.Errorf("height %d: %d and %d meet at %d", h, i, j, level)
				}
				under, _ := x.Node(level-1, uint64(j)>>(level-1))
				if a.Proof.Sides[level-1] != under || a.Proof.Sides[level-1] == b.Proof.Sides[level-1] {
					t.Errorf("height %d: %d and %d meet at %d: %#v", h, i, j, level, a.Proof.Sides[level-1])
				}
				if level == 1 && (a.Proof.Sides[0] != tag.LeafNode(32, b.Leaf) || b.Proof.Sides[0] != tag.LeafNode(32, a.Leaf)) {
					t.Errorf("height %d: %d and %d stand side by side", h, i, j)
				}
			}
		}
	}
}

// changed tells at which levels two proofs have unlike sides.
func changed(a, b api.Proof) []int {
	var l []int
	for i, side := range a.Sides {
		if side != b.Sides[i] {
			l = append(l, i)
		}
	}
	return l
}

// P16.6: of a leaf that is set the own proof stays; of each other one just one side changes, that below the level at which their ways meet, or none, where what is set is the same, or comes to the same digest.
func TestWhatChanges(t *testing.T) {
	r := picker(9)
	none, one := 0, 0
	for h := range 7 {
		for _, width := range []int{1, 2, 32} {
			l := pickLeaves(r, h)
			x := mustTree(t, width, l)
			for at := range uint64(len(l)) {
				was := proof.All(x)
				mustSet(t, x, at, l[at])
				if !slices.EqualFunc(was, proof.All(x), equal) {
					t.Fatalf("height %d, width %d: set as it was at %d: another proof", h, width, at)
				}
				mustSet(t, x, at, pickLeaf(r))
				for position, now := range proof.All(x) {
					levels := changed(was[position].Proof, now.Proof)
					switch {
					case len(levels) == 0:
						none++
					case len(levels) == 1 && levels[0] == meet(at, uint64(position))-1:
						one++
					default:
						t.Errorf("height %d, width %d, set at %d: of %d the levels %v", h, width, at, position, levels)
					}
					if width == 32 && (len(levels) == 0) != (uint64(position) == at) {
						t.Errorf("height %d, set at %d: of %d the levels %v", h, at, position, levels)
					}
				}
				l = x.Leaves()
			}
		}
	}
	if none == 0 || one == 0 {
		t.Errorf("%d stayed, %d changed", none, one)
	}
}

// inside tells whether two texts lie in one memory.
func inside(a, b string) bool {
	return a != "" && b != "" && unsafe.StringData(a) == unsafe.StringData(b)
}

// checkApart checks that two entries share no memory.
func checkApart(t *testing.T, a, b api.Entry) {
	t.Helper()
	if len(a.Proof.Sides) > 0 && len(b.Proof.Sides) > 0 && &a.Proof.Sides[0] == &b.Proof.Sides[0] {
		t.Errorf("%d and %d share their sides", a.Proof.Position, b.Proof.Position)
	}
	if inside(a.Leaf.Id, b.Leaf.Id) || inside(a.Leaf.Salt, b.Leaf.Salt) {
		t.Errorf("%d and %d share their leaf's texts", a.Proof.Position, b.Proof.Position)
	}
	for _, one := range a.Proof.Sides {
		for _, other := range b.Proof.Sides {
			if inside(one.Hash, other.Hash) {
				t.Errorf("%d and %d share a digest", a.Proof.Position, b.Proof.Position)
			}
		}
	}
}

// What is told is the caller's own: no two entries share memory, and none is changed by what becomes of another one, or of the tree.
func TestMemoryOfItsOwn(t *testing.T) {
	r := picker(10)
	for h := range 6 {
		l := pickLeaves(r, h)
		x := mustTree(t, 32, l)
		told := append(proof.All(x), proof.All(x)...)
		for position := range l {
			told = append(told, mustOf(t, x, uint64(position)))
		}
		for i, a := range told {
			for _, b := range told[:i] {
				checkApart(t, a, b)
			}
		}
		kept := twin(told[0])
		for i := range told[1:] {
			grown := append(told[i+1].Proof.Sides, api.Node{Hash: "spoilt"})
			for place := range grown {
				grown[place] = api.Node{Hash: "spoilt"}
			}
			clear(told[i+1].Proof.Sides)
		}
		checkSame(t, "the others are spoilt", told[0], kept, true)
		checkOf(t, "what was told is spoilt", x, l, pickPositions(r, h))
		for position := range l {
			mustSet(t, x, uint64(position), api.Leaf{Id: "set"})
		}
		checkSame(t, "the tree was set", told[0], kept, true)
	}
}

// What is handed in stays as it is; asked again, the same is told.
func TestNothingIsChanged(t *testing.T) {
	r := picker(11)
	for h := range 6 {
		l := pickLeaves(r, h)
		x := mustTree(t, 7, l)
		root := x.Root()
		all := proof.All(x)
		for i, e := range all {
			was := twin(e)
			memory := append(slices.Clip(e.Proof.Sides), api.Node{Hash: "behind"})
			e.Proof.Sides = memory[:h]
			for range 2 {
				proof.Shape(7, h, e.Proof)
				proof.Shape(8, h+1, e.Proof)
				proof.Same(e, all[0])
				proof.Same(all[len(all)-1], e)
			}
			if !equal(e, was) || memory[h].Hash != "behind" {
				t.Errorf("height %d: %d is changed", h, i)
			}
		}
		if again := proof.All(x); !slices.EqualFunc(all, again, equal) || x.Root() != root || !slices.Equal(x.Leaves(), l) {
			t.Errorf("height %d: asked again it is another one, or the tree is", h)
		}
	}
}
