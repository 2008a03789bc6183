package tree_test

import (
	"crypto/sha256"
	"encoding/hex"
	"math"
	"math/big"
	"math/rand/v2"
	"slices"
	"strconv"
	"strings"
	"testing"
	"unicode/utf8"
	"unsafe"

	"paymaster/api"
	"paymaster/node"
	"paymaster/tag"
	"paymaster/tree"
)

const top = math.MaxUint64

func num(hi, lo uint64) api.U128 { return api.U128{Hi: hi, Lo: lo} }

// asBig tells a number without end, so that the package is held against arithmetic that isn't the program's.
func asBig(a api.U128) *big.Int {
	n := new(big.Int).Lsh(new(big.Int).SetUint64(a.Hi), 64)
	return n.Or(n, new(big.Int).SetUint64(a.Lo))
}

// fits tells whether there is room for the number in 128 bits.
func fits(n *big.Int) bool { return n.Sign() >= 0 && n.BitLen() <= 128 }

// asNum tells a number that fits.
func asNum(n *big.Int) api.U128 {
	lo := new(big.Int).And(n, new(big.Int).SetUint64(top))
	return num(new(big.Int).Rsh(n, 64).Uint64(), lo.Uint64())
}

// totalOf tells the sum of all balances, without end.
func totalOf(l []api.Leaf) *big.Int {
	sum := new(big.Int)
	for _, x := range l {
		sum.Add(sum, asBig(x.Balance))
	}
	return sum
}

// bytesOf tells a number's 16 bytes.
func bytesOf(a api.U128) string { return string(asBig(a).FillBytes(make([]byte, 16))) }

// isId tells whether the text is an Id, by the document's words.
func isId(s string) bool {
	const letters = "abcdefghijklmnopqrstuvwxyzABCDEFGHIJKLMNOPQRSTUVWXYZ0123456789._-"
	runes := []rune(s)
	if !utf8.ValidString(s) || len(runes) == 0 || len(runes) > 24 {
		return false
	}
	return !slices.ContainsFunc(runes, func(r rune) bool { return r <= 160 && !strings.ContainsRune(letters, r) })
}

// mayBe tells whether the leaf may be, by the document's words.
func mayBe(l api.Leaf) bool {
	if l.Pad {
		return l.Id == "" && l.Balance == num(0, 0) && len(l.Salt) <= 32
	}
	return isId(l.Id) && len(l.Salt) <= 32
}

// wantLeafText tells what is digested of a leaf that may be, by the document's words.
func wantLeafText(l api.Leaf) string {
	if l.Pad {
		return "\x02" + string([]byte{byte(len(l.Salt))}) + l.Salt
	}
	return "\x00" + string([]byte{byte(len(l.Id))}) + l.Id + string([]byte{byte(len(l.Salt))}) + l.Salt + bytesOf(l.Balance)
}

// wantNodeText tells what is digested of a node with those two below it.
func wantNodeText(l, r api.Node) string {
	return "\x01" + l.Hash + bytesOf(l.Sum) + r.Hash + bytesOf(r.Sum)
}

// digest tells the first bytes of the library's SHA-256.
func digest(width int, text string) string {
	d := sha256.Sum256([]byte(text))
	return string(d[:width])
}

// wantLevels tells all levels of a tree, and the error that New must tell of it, by the document's words.
func wantLevels(width int, l []api.Leaf) ([][]api.Node, api.Errno) {
	switch {
	case width < 1 || width > 32:
		return nil, api.ErrWidth
	case !slices.Contains([]int{1, 2, 4, 8, 16, 32, 64, 128, 256, 512, 1024}, len(l)):
		return nil, api.ErrHeight
	case slices.ContainsFunc(l, func(x api.Leaf) bool { return !mayBe(x) }):
		return nil, api.ErrLeaf
	case !fits(totalOf(l)):
		return nil, api.ErrSum
	}
	var at []api.Node
	for _, x := range l {
		at = append(at, api.Node{Hash: digest(width, wantLeafText(x)), Sum: x.Balance})
	}
	levels := [][]api.Node{at}
	for len(at) > 1 {
		var up []api.Node
		for i := 0; i < len(at); i += 2 {
			sum := new(big.Int).Add(asBig(at[i].Sum), asBig(at[i+1].Sum))
			up = append(up, api.Node{Hash: digest(width, wantNodeText(at[i], at[i+1])), Sum: asNum(sum)})
		}
		levels = append(levels, up)
		at = up
	}
	return levels, api.OK
}

// beyond are places that no tree has.
func beyond(many int) []uint64 {
	n := uint64(many)
	return []uint64{n, n + 1, 2*n + 1, 2048, 1 << 31, 1 << 32, 1<<32 + n - 1, 1 << 62, 1<<63 - 1, 1 << 63, 1<<63 + n - 1, top - 1, top}
}

// checkTree holds all that a tree tells against what it must, by the document's words.
func checkTree(t *testing.T, what string, x *tree.Tree, width int, l []api.Leaf) {
	t.Helper()
	levels, e := wantLevels(width, l)
	if e != api.OK {
		t.Fatalf("%s: the test's own tree: error %d", what, e)
	}
	h := len(levels) - 1
	if x == nil || x.Width() != width || x.Height() != h {
		t.Fatalf("%s: width %d, height %d, not %d and %d", what, x.Width(), x.Height(), width, h)
	}
	if want := (api.Root{Hash: levels[h][0].Hash, Total: levels[h][0].Sum, Height: h}); x.Root() != want {
		t.Fatalf("%s: the root %#v, not %#v", what, x.Root(), want)
	}
	for n, level := range levels {
		for place, want := range level {
			if got, is := x.Node(n, uint64(place)); got != want || !is {
				t.Fatalf("%s: the node %d of level %d: %#v %v, not %#v", what, place, n, got, is, want)
			}
		}
		for _, place := range beyond(len(level)) {
			if got, is := x.Node(n, place); got != (api.Node{}) || is {
				t.Fatalf("%s: the node %d of level %d: %#v %v", what, place, n, got, is)
			}
		}
	}
	for _, n := range []int{-1, -2, h + 1, h + 2, 10 + h + 1, 63, 64, 65, 1 << 32, 1<<32 + h, math.MaxInt, math.MinInt, math.MinInt + h} {
		for _, place := range append(beyond(1), 0) {
			if got, is := x.Node(n, place); got != (api.Node{}) || is {
				t.Fatalf("%s: the node %d of level %d: %#v %v", what, place, n, got, is)
			}
		}
	}
	checkLeaves(t, what, x, l)
}

// checkLeaves holds the leaves that a tree tells against those.
func checkLeaves(t *testing.T, what string, x *tree.Tree, l []api.Leaf) {
	t.Helper()
	if got := x.Leaves(); !slices.Equal(got, l) {
		t.Fatalf("%s: the leaves %#v, not %#v", what, got, l)
	}
	for position, want := range l {
		if got, is := x.Leaf(uint64(position)); got != want || !is {
			t.Fatalf("%s: the leaf %d: %#v %v, not %#v", what, position, got, is, want)
		}
	}
	for _, position := range beyond(len(l)) {
		if got, is := x.Leaf(position); got != (api.Leaf{}) || is {
			t.Fatalf("%s: the leaf %d: %#v %v", what, position, got, is)
		}
	}
}

// mustNew tells the tree of leaves of which there is one.
func mustNew(t *testing.T, width int, l []api.Leaf) *tree.Tree {
	t.Helper()
	x, e := tree.New(width, l)
	if e != api.OK || x == nil {
		t.Fatalf("New(%d, of %d): error %d", width, len(l), e)
	}
	return x
}

// mustSet sets a leaf that may be set.
func mustSet(t *testing.T, x *tree.Tree, position int, l api.Leaf) {
	t.Helper()
	if e := x.Set(uint64(position), l); e != api.OK {
		t.Fatalf("Set(%d, %#v): error %d", position, l, e)
	}
}

// picker tells what chance (always the same one, of that seed) picks.
func picker(seed uint64) *rand.Rand { return rand.New(rand.NewPCG(15, seed)) }

// pickText tells at most n bytes that chance picks.
func pickText(r *rand.Rand, n int) string {
	b := make([]byte, r.IntN(n+1))
	for i := range b {
		b[i] = byte(r.Uint32())
	}
	return string(b)
}

// pickId tells an Id.
func pickId(r *rand.Rand) string {
	letters := []rune("abcxyzABCXYZ0189._-¡äß€�🙂")
	id := make([]rune, 1+r.IntN(24))
	for i := range id {
		id[i] = letters[r.IntN(len(letters))]
	}
	return string(id)
}

// pickLeaf tells a leaf that may be, with so small a balance that there is room for 2^16 of them.
func pickLeaf(r *rand.Rand) api.Leaf {
	if r.IntN(3) == 0 {
		return api.Leaf{Pad: true, Salt: pickText(r, 32)}
	}
	return api.Leaf{Id: pickId(r), Salt: pickText(r, 32), Balance: num(r.Uint64()>>(16+r.UintN(49)), r.Uint64()>>r.UintN(65))}
}

// pickLeaves tells n of them.
func pickLeaves(r *rand.Rand, n int) []api.Leaf {
	l := make([]api.Leaf, n)
	for i := range l {
		l[i] = pickLeaf(r)
	}
	return l
}

// numbered tells n accounts of the balances 1, 2, 3 and so on.
func numbered(n int) []api.Leaf {
	l := make([]api.Leaf, n)
	for i := range l {
		l[i] = api.Leaf{Id: "id" + strconv.Itoa(i), Salt: "salt", Balance: num(0, uint64(i)+1)}
	}
	return l
}

// pads tells n pads.
func pads(n int) []api.Leaf { return slices.Repeat([]api.Leaf{{Pad: true}}, n) }

// rich tells an account of that balance.
func rich(balance api.U128) api.Leaf { return api.Leaf{Id: "rich", Balance: balance} }

// wrongWidths are widths that may not be.
func wrongWidths() []int {
	return []int{0, -1, -2, -32, -33, 33, 34, 64, 255, 256, 257, 1 << 31, 1<<32 + 1, 1<<32 + 32, math.MaxInt, math.MinInt, math.MinInt + 4}
}

// wrongLeaves are leaves that may not be.
func wrongLeaves() []api.Leaf {
	return []api.Leaf{
		{},
		{Salt: "s", Balance: num(0, 1)},
		{Id: "a b"},
		{Id: "a\n"},
		{Id: "\xff"},
		{Id: "ok\xc3"},
		{Id: "\u00a0"},
		{Id: strings.Repeat("a", 25)},
		{Id: strings.Repeat("ä", 25)},
		{Id: strings.Repeat("a", 256)},
		{Id: "a", Salt: strings.Repeat("s", 33)},
		{Id: "a", Salt: strings.Repeat("s", 256)},
		{Id: "", Salt: strings.Repeat("s", 32)},
		{Pad: true, Id: "a"},
		{Pad: true, Balance: num(0, 1)},
		{Pad: true, Balance: num(1, 0)},
		{Pad: true, Balance: num(top, top)},
		{Pad: true, Salt: strings.Repeat("s", 33)},
		{Pad: true, Id: "a", Balance: num(0, 1)},
	}
}

// edgeLeaves are leaves that just may be.
func edgeLeaves() []api.Leaf {
	return []api.Leaf{
		{Id: "a"},
		{Id: strings.Repeat("z", 24), Salt: strings.Repeat("s", 32)},
		{Id: strings.Repeat("🙂", 24), Salt: strings.Repeat("\xff", 32), Balance: num(1, 0)},
		{Id: "\u00a1", Salt: "\x00", Balance: num(0, top)},
		{Id: "\ufffd"},
		{Id: "._-"},
		{Pad: true},
		{Pad: true, Salt: strings.Repeat("\x00", 32)},
		{Pad: true, Salt: "\x00"},
	}
}

// P15.1, P15.2: the document's example.
func TestExample(t *testing.T) {
	var l []api.Leaf
	for i, id := range []string{"a", "b", "c", "d"} {
		l = append(l, api.Leaf{Id: id, Balance: num(0, uint64(i)+1)})
	}
	x := mustNew(t, 32, l)
	if x.Height() != 2 || x.Width() != 32 || x.Root().Total != num(0, 10) || x.Root().Height != 2 {
		t.Errorf("%#v", x.Root())
	}
	three, is := x.Node(1, 0)
	seven, has := x.Node(1, 1)
	if !is || !has || three.Sum != num(0, 3) || seven.Sum != num(0, 7) {
		t.Errorf("%#v %#v", three, seven)
	}
	if _, is := x.Node(1, 2); is {
		t.Error("a third node at level 1")
	}
}

// P15.1: a root that was worked out elsewhere, byte by byte.
func TestRootWorkedOut(t *testing.T) {
	l := []api.Leaf{{Id: "a", Salt: "s", Balance: num(0, 5)}, {Pad: true}}
	account := "\x00\x01a\x01s" + strings.Repeat("\x00", 15) + "\x05"
	left, right := sha256.Sum256([]byte(account)), sha256.Sum256([]byte("\x02\x00"))
	text := "\x01" + string(left[:]) + strings.Repeat("\x00", 15) + "\x05" + string(right[:]) + strings.Repeat("\x00", 16)
	all := sha256.Sum256([]byte(text))
	const want = "de1ff8de101568482148c99fa935d5727c0f513ca2ab83ffa863a48295e0336e"
	if got := hex.EncodeToString(all[:]); got != want {
		t.Fatalf("the test's own digest: %s", got)
	}
	if r := mustNew(t, 32, l).Root(); hex.EncodeToString([]byte(r.Hash)) != want || r.Total != num(0, 5) || r.Height != 1 {
		t.Errorf("%x %v %d", r.Hash, r.Total, r.Height)
	}
}

// P15.1, P15.2: all heights and widths.
func TestNew(t *testing.T) {
	r := picker(1)
	for h := range 11 {
		for width := 1; width <= 32; width++ {
			if h > 5 && width%8 > 1 {
				continue
			}
			for _, l := range [][]api.Leaf{pickLeaves(r, 1<<h), numbered(1 << h), pads(1 << h)} {
				checkTree(t, "height "+strconv.Itoa(h)+", width "+strconv.Itoa(width), mustNew(t, width, l), width, l)
			}
		}
	}
}

// P15.1, P15.2: each leaf that just may be, alone and among others.
func TestNewOfEdges(t *testing.T) {
	edges := edgeLeaves()
	for i, x := range edges {
		what := "the edge " + strconv.Itoa(i)
		checkTree(t, what, mustNew(t, 4, []api.Leaf{x}), 4, []api.Leaf{x})
		l := append(slices.Clone(edges), pads(16-len(edges))...)
		l[0], l[i] = l[i], l[0]
		checkTree(t, what, mustNew(t, 4, l), 4, l)
	}
	for _, balance := range []api.U128{num(0, top), num(1, 0), num(1<<63, 0), num(top, 0), num(top, top-1), num(top, top)} {
		l := []api.Leaf{rich(balance)}
		checkTree(t, "one alone", mustNew(t, 32, l), 32, l)
		l = append(pads(7), rich(balance))
		checkTree(t, "one of eight", mustNew(t, 32, l), 32, l)
	}
}

// P15.1: the same leaf may stand at many positions: a tree doesn't ask.
func TestNewOfSameLeaves(t *testing.T) {
	l := slices.Repeat([]api.Leaf{{Id: "a", Salt: "s", Balance: num(0, 3)}}, 16)
	x := mustNew(t, 8, l)
	checkTree(t, "same leaves", x, 8, l)
	a, _ := x.Node(2, 0)
	b, _ := x.Node(2, 3)
	if a != b || x.Root().Total != num(0, 48) {
		t.Errorf("%#v %#v %v", a, b, x.Root().Total)
	}
}

// refused checks that New tells that error, and no tree.
func refused(t *testing.T, what string, width int, l []api.Leaf, want api.Errno) {
	t.Helper()
	x, e := tree.New(width, l)
	if e != want || x != nil {
		t.Errorf("%s: error %d, a tree: %v; not %d", what, e, x != nil, want)
	}
}

// P15.1: a width that may not be is told ahead of all else.
func TestNewOfWrongWidths(t *testing.T) {
	full := slices.Repeat([]api.Leaf{rich(num(top, top))}, 4)
	for _, width := range wrongWidths() {
		for i, l := range [][]api.Leaf{nil, {}, numbered(1), numbered(2), numbered(3), pads(2048), make([]api.Leaf, 3), make([]api.Leaf, 4), full} {
			refused(t, "width "+strconv.Itoa(width)+", "+strconv.Itoa(i), width, l, api.ErrWidth)
		}
	}
}

// P15.1: leaves that aren't 2^H, H from 0 to MaxBuild; told ahead of leaves that may not be, and of sums.
func TestNewOfWrongMany(t *testing.T) {
	good, bad := pads(4200), make([]api.Leaf, 4200)
	full := slices.Repeat([]api.Leaf{rich(num(top, top))}, 4200)
	powers := []int{1, 2, 4, 8, 16, 32, 64, 128, 256, 512, 1024}
	for n := range 4200 {
		if n > 70 && n < 2040 && n%7 > 0 && !slices.Contains([]int{127, 129, 255, 257, 511, 513, 1023, 1025}, n) || slices.Contains(powers, n) {
			continue
		}
		refused(t, strconv.Itoa(n)+" pads", 4, good[:n], api.ErrHeight)
		refused(t, strconv.Itoa(n)+" wrong ones", 4, bad[:n], api.ErrHeight)
		refused(t, strconv.Itoa(n)+" full ones", 4, full[:n], api.ErrHeight)
	}
	for _, n := range []int{1 << 11, 1 << 12, 1 << 16, 1 << 17} {
		refused(t, strconv.Itoa(n)+" pads", 1, pads(n), api.ErrHeight)
	}
	refused(t, "nil", 1, nil, api.ErrHeight)
	for _, n := range powers {
		checkTree(t, strconv.Itoa(n)+" pads", mustNew(t, 4, good[:n]), 4, good[:n])
	}
}

// P15.1: each leaf that may not be, at each position, among good ones, and among such as have no room.
func TestNewOfWrongLeaves(t *testing.T) {
	for i, bad := range wrongLeaves() {
		for h := range 6 {
			for at := range 1 << h {
				l, full := numbered(1<<h), slices.Repeat([]api.Leaf{rich(num(top, top))}, 1<<h)
				l[at], full[at] = bad, bad
				what := "the wrong leaf " + strconv.Itoa(i) + " at " + strconv.Itoa(at)
				refused(t, what, 4, l, api.ErrLeaf)
				refused(t, what+", no room", 4, full, api.ErrLeaf)
			}
		}
		refused(t, "all wrong", 32, slices.Repeat([]api.Leaf{bad}, 8), api.ErrLeaf)
		for _, at := range []int{0, 1, 511, 512, 1022, 1023} {
			l := pads(1024)
			l[at] = bad
			refused(t, "of 1024 the one at "+strconv.Itoa(at), 1, l, api.ErrLeaf)
		}
	}
}

// P15.1: two balances that have no room together, wherever both are; one less, and there is.
func TestNewWithoutRoom(t *testing.T) {
	for h := 1; h <= 5; h++ {
		for i := range 1 << h {
			for j := range 1 << h {
				if i == j {
					continue
				}
				what := "height " + strconv.Itoa(h) + ", at " + strconv.Itoa(i) + " and " + strconv.Itoa(j)
				l := pads(1 << h)
				l[i], l[j] = rich(num(top, top)), rich(num(0, 1))
				refused(t, what, 4, l, api.ErrSum)
				l[i].Balance = num(top, top-1)
				if x := mustNew(t, 4, l); x.Root().Total != num(top, top) {
					t.Errorf("%s: %v", what, x.Root().Total)
				}
				l[i].Balance, l[j].Balance = num(1<<63, 0), num(1<<63, 0)
				refused(t, what, 4, l, api.ErrSum)
			}
		}
	}
	l := slices.Repeat([]api.Leaf{rich(num(1<<54, 0))}, 1024)
	refused(t, "2^10 of 2^118", 4, l, api.ErrSum)
	l[1000].Balance = num(1<<54-1, top)
	if x := mustNew(t, 4, l); x.Root().Total != num(top, top) {
		t.Errorf("%v", x.Root().Total)
	}
}

// P15.3, P15.6: each leaf that may be, at each position of all small trees.
func TestSet(t *testing.T) {
	r := picker(2)
	for h := range 6 {
		for at := range 1 << h {
			was := pickLeaves(r, 1<<h)
			for i, one := range append(edgeLeaves(), pickLeaf(r), pickLeaf(r)) {
				width := 1 + r.IntN(32)
				x, l := mustNew(t, width, was), slices.Clone(was)
				l[at] = one
				mustSet(t, x, at, one)
				what := "height " + strconv.Itoa(h) + ", " + strconv.Itoa(i) + " at " + strconv.Itoa(at)
				checkTree(t, what, x, width, l)
				mustSet(t, x, at, was[at])
				checkTree(t, what+", set back", x, width, was)
			}
		}
	}
}

// P15.3, P15.6: one leaf behind the other, as chance has them, in all heights.
func TestSetOneBehindTheOther(t *testing.T) {
	r := picker(3)
	for h := range 11 {
		l := pickLeaves(r, 1<<h)
		width := 1 + r.IntN(32)
		x := mustNew(t, width, l)
		for range 12 {
			for range 1 + r.IntN(6) {
				at := r.IntN(1 << h)
				l[at] = pickLeaf(r)
				mustSet(t, x, at, l[at])
			}
			checkTree(t, "height "+strconv.Itoa(h), x, width, l)
		}
	}
}

// P15.6: from any tree to any other one, in whatever order; and each of them is the one that is built.
func TestSetAll(t *testing.T) {
	r := picker(4)
	for h := range 7 {
		was, next := pickLeaves(r, 1<<h), pickLeaves(r, 1<<h)
		x, built := mustNew(t, 16, was), mustNew(t, 16, next)
		for _, at := range r.Perm(1 << h) {
			mustSet(t, x, at, next[at])
		}
		checkTree(t, "there", x, 16, next)
		if x.Root() != built.Root() {
			t.Errorf("height %d: unlike roots", h)
		}
		for _, at := range r.Perm(1 << h) {
			mustSet(t, x, at, was[at])
		}
		checkTree(t, "and back", x, 16, was)
	}
}

// P15.6: the same leaf again changes nothing.
func TestSetTheSame(t *testing.T) {
	l := numbered(16)
	x := mustNew(t, 7, l)
	for at := range l {
		mustSet(t, x, at, l[at])
		checkTree(t, "the same", x, 7, l)
	}
}

// stays checks that Set tells that error, and that all stays.
func stays(t *testing.T, what string, x *tree.Tree, position uint64, one api.Leaf, want api.Errno, l []api.Leaf) {
	t.Helper()
	if e := x.Set(position, one); e != want {
		t.Errorf("%s: error %d, not %d", what, e, want)
	}
	checkTree(t, what, x, x.Width(), l)
}

// P15.3: positions that there aren't: told ahead of a leaf that may not be, and of sums.
func TestSetBeyond(t *testing.T) {
	for h := range 5 {
		l := numbered(1 << h)
		x := mustNew(t, 4, l)
		for _, position := range beyond(1 << h) {
			for i, one := range []api.Leaf{{Pad: true}, {}, rich(num(top, top)), {Pad: true, Balance: num(top, top)}} {
				stays(t, "at "+strconv.FormatUint(position, 10)+", "+strconv.Itoa(i), x, position, one, api.ErrArg, l)
			}
		}
	}
}

// P15.3: leaves that may not be: told ahead of sums.
func TestSetWrongLeaves(t *testing.T) {
	for h := range 4 {
		l := numbered(1 << h)
		x := mustNew(t, 4, l)
		for at := range l {
			for i, bad := range wrongLeaves() {
				stays(t, "the wrong leaf "+strconv.Itoa(i), x, uint64(at), bad, api.ErrLeaf, l)
				bad.Balance = num(top, top)
				stays(t, "the wrong rich leaf "+strconv.Itoa(i), x, uint64(at), bad, api.ErrLeaf, l)
			}
		}
	}
}

// P15.3: a balance without room, wherever the other one is; one less, and there is.
func TestSetWithoutRoom(t *testing.T) {
	for h := 1; h <= 4; h++ {
		for i := range 1 << h {
			for j := range 1 << h {
				if i == j {
					continue
				}
				what := "height " + strconv.Itoa(h) + ", at " + strconv.Itoa(i) + " and " + strconv.Itoa(j)
				l := pads(1 << h)
				l[i] = rich(num(1<<63, 1))
				x := mustNew(t, 4, l)
				stays(t, what, x, uint64(j), rich(num(1<<63-1, top)), api.ErrSum, l)
				stays(t, what, x, uint64(j), rich(num(top, top)), api.ErrSum, l)
				l[j] = rich(num(1<<63-1, top-1))
				mustSet(t, x, j, l[j])
				checkTree(t, what, x, 4, l)
				stays(t, what+", full", x, uint64(j), rich(num(1<<63-1, top)), api.ErrSum, l)
				stays(t, what+", full", x, uint64(i), rich(num(1<<63, 2)), api.ErrSum, l)
			}
		}
	}
}

// P15.3: what stood at the position doesn't count any more.
func TestSetInsteadOfAFullOne(t *testing.T) {
	for h := range 5 {
		for at := range 1 << h {
			l := pads(1 << h)
			l[at] = rich(num(top, top))
			x := mustNew(t, 4, l)
			for _, one := range []api.Leaf{rich(num(top, top-1)), {Id: "poor"}, {Pad: true}, {Id: "other", Balance: num(top, top)}} {
				l[at] = one
				mustSet(t, x, at, one)
				checkTree(t, "instead", x, 4, l)
			}
		}
	}
}

// P15.4: a copy is the same, and goes on alone; so does the one that was copied.
func TestCopy(t *testing.T) {
	r := picker(5)
	for h := range 8 {
		for at := range min(1<<h, 9) {
			l := pickLeaves(r, 1<<h)
			x := mustNew(t, 6, l)
			y := x.Copy()
			z := y.Copy()
			if x == y || y == z {
				t.Fatal("the copy is the same one")
			}
			checkTree(t, "the copy", y, 6, l)
			m, n := slices.Clone(l), slices.Clone(l)
			m[at], n[at] = rich(num(0, 1)), rich(num(0, 2))
			mustSet(t, y, at, m[at])
			checkTree(t, "the one that was copied", x, 6, l)
			checkTree(t, "the copy, set", y, 6, m)
			checkTree(t, "the copy's copy", z, 6, l)
			mustSet(t, x, at, n[at])
			checkTree(t, "the one that was copied, set", x, 6, n)
			checkTree(t, "the copy, behind that", y, 6, m)
			checkTree(t, "the copy's copy, behind that", z, 6, l)
		}
	}
}

// P15.4: a copy of one that was set is as that stands.
func TestCopyOfOneThatWasSet(t *testing.T) {
	r := picker(6)
	for h := range 7 {
		l := pickLeaves(r, 1<<h)
		x := mustNew(t, 32, l)
		for at := range l {
			l[at] = pickLeaf(r)
			mustSet(t, x, at, l[at])
			x = x.Copy()
		}
		checkTree(t, "copied again and again", x, 32, l)
	}
}

// P15.1 to P15.4: a tree that nobody made, nil or not.
func TestNobodys(t *testing.T) {
	var value tree.Tree
	for i, x := range []*tree.Tree{nil, new(tree.Tree), {}, &value} {
		for _, one := range []api.Leaf{{Pad: true}, {}, rich(num(top, top))} {
			for _, position := range append(beyond(1), 0) {
				if e := x.Set(position, one); e != api.ErrNil {
					t.Errorf("%d: Set: error %d", i, e)
				}
			}
		}
		if x.Width() != 0 || x.Height() != 0 || x.Root() != (api.Root{}) {
			t.Errorf("%d: %d %d %#v", i, x.Width(), x.Height(), x.Root())
		}
		if x.Leaves() != nil || x.Copy() != nil {
			t.Errorf("%d: leaves, or a copy", i)
		}
		for _, place := range append(beyond(1), 0) {
			for _, level := range []int{-1, 0, 1, 10, math.MinInt, math.MaxInt} {
				if n, is := x.Node(level, place); n != (api.Node{}) || is {
					t.Errorf("%d: Node(%d, %d): %#v %v", i, level, place, n, is)
				}
			}
			if l, is := x.Leaf(place); l != (api.Leaf{}) || is {
				t.Errorf("%d: Leaf(%d): %#v %v", i, place, l, is)
			}
		}
	}
}

// P15.5: each node is what layer 14 folds the nodes of its leaves to, the root what it folds all of them to; also behind a Set.
func TestAsFolded(t *testing.T) {
	r := picker(7)
	for h := range 9 {
		width := 1 + r.IntN(32)
		l := pickLeaves(r, 1<<h)
		x := mustNew(t, width, l)
		for round := range 3 {
			if round > 0 {
				at := r.IntN(1 << h)
				l[at] = pickLeaf(r)
				mustSet(t, x, at, l[at])
			}
			checkFolded(t, x, width, l)
		}
	}
}

func checkFolded(t *testing.T, x *tree.Tree, width int, l []api.Leaf) {
	t.Helper()
	var nodes []api.Node
	for _, one := range l {
		nodes = append(nodes, tag.LeafNode(width, one))
	}
	all, e := node.Fold(width, nodes)
	if want := (api.Root{Hash: all.Hash, Total: all.Sum, Height: x.Height()}); e != api.OK || x.Root() != want {
		t.Errorf("the root %#v, not %#v; error %d", x.Root(), want, e)
	}
	for level := range x.Height() + 1 {
		size := 1 << level
		for place := range len(l) / size {
			want, e := node.Fold(width, nodes[place*size:(place+1)*size])
			if got, is := x.Node(level, uint64(place)); e != api.OK || !is || got != want {
				t.Errorf("the node %d of level %d: %#v %v, not %#v; error %d", place, level, got, is, want, e)
			}
		}
	}
}

// P15.7: the total is the sum of all balances, up to the greatest that there is room for.
func TestTotal(t *testing.T) {
	r := picker(8)
	for h := range 8 {
		for range 12 {
			l, left := pads(1<<h), asBig(num(top, top))
			for i := range l {
				part := new(big.Int).Rsh(asBig(num(r.Uint64(), r.Uint64())), r.UintN(129))
				part.Mod(part, new(big.Int).Add(left, big.NewInt(1)))
				l[i] = rich(asNum(part))
				left.Sub(left, part)
			}
			if r.IntN(2) == 0 {
				at := r.IntN(1 << h)
				l[at].Balance = asNum(left.Add(left, asBig(l[at].Balance)))
			}
			r.Shuffle(len(l), func(i, j int) { l[i], l[j] = l[j], l[i] })
			if got, want := mustNew(t, 3, l).Root().Total, totalOf(l); asBig(got).Cmp(want) != 0 {
				t.Errorf("height %d: %v, not %s", h, got, want)
			}
		}
	}
}

// P15.7: two trees with the same leaves have the same root, whatever memory these lie in, and however they came to them.
func TestSameLeavesSameRoot(t *testing.T) {
	r := picker(9)
	for h := range 8 {
		for _, width := range []int{1, 2, 16, 32} {
			l := pickLeaves(r, 1<<h)
			m := slices.Clone(l)
			for i := range m {
				m[i].Id, m[i].Salt = strings.Clone(m[i].Id), strings.Clone(m[i].Salt)
			}
			x, y, z := mustNew(t, width, l), mustNew(t, width, m), mustNew(t, width, pads(1<<h))
			for at, one := range l {
				mustSet(t, z, at, one)
			}
			if x.Root() != y.Root() || x.Root() != z.Root() {
				t.Errorf("height %d, width %d: %#v %#v %#v", h, width, x.Root(), y.Root(), z.Root())
			}
		}
	}
}

// others tells leaves that may be, each of which isn't this one.
func others(l api.Leaf) []api.Leaf {
	was := l
	list := []api.Leaf{{Pad: true, Salt: "p"}, {Pad: true, Salt: was.Salt}, {Id: "other", Salt: was.Salt, Balance: was.Balance}, {Id: "b" + was.Salt, Balance: was.Balance}}
	if !l.Pad {
		l.Balance = num(was.Balance.Hi, was.Balance.Lo+1)
		list = append(list, l)
		l.Balance = num(was.Balance.Hi+1, was.Balance.Lo)
		list = append(list, l)
		l = was
	}
	l.Salt += "s"
	list = append(list, l)
	return slices.DeleteFunc(list, func(x api.Leaf) bool { return x == was || !mayBe(x) })
}

// textAt tells what is digested of the node at that level, above the position.
func textAt(t *testing.T, x *tree.Tree, level int, position uint64) string {
	t.Helper()
	if level == 0 {
		l, _ := x.Leaf(position)
		return wantLeafText(l)
	}
	below := position >> (level - 1)
	l, is := x.Node(level-1, below&^1)
	r, has := x.Node(level-1, below|1)
	if !is || !has {
		t.Fatalf("level %d, position %d: no nodes below", level, position)
	}
	return wantNodeText(l, r)
}

// collide tells whether on the way up from the position two unlike texts of both trees have one digest.
func collide(t *testing.T, x, y *tree.Tree, position uint64) bool {
	t.Helper()
	for level := range x.Height() + 1 {
		a, b := textAt(t, x, level, position), textAt(t, y, level, position)
		if a != b && digest(x.Width(), a) == digest(x.Width(), b) {
			return true
		}
	}
	return false
}

// P15.7: of trees of which just one leaf is another one the roots are unlike, or two unlike texts on the way have one digest; both come about.
func TestUnlikeLeaves(t *testing.T) {
	r := picker(10)
	found, apart := 0, 0
	for h := range 6 {
		for at := range uint64(1) << h {
			for _, width := range []int{1, 2, 8, 32} {
				l := pickLeaves(r, 1<<h)
				x := mustNew(t, width, l)
				for _, one := range others(l[at]) {
					m := slices.Clone(l)
					m[at] = one
					y := mustNew(t, width, m)
					if x.Root() != y.Root() {
						apart++
						continue
					}
					found++
					if !collide(t, x, y, at) {
						t.Errorf("height %d, width %d, at %d: one root, and no two texts with one digest", h, width, at)
					}
					if width >= 8 {
						t.Errorf("height %d, width %d, at %d: one root", h, width, at)
					}
				}
			}
		}
	}
	if found == 0 || apart == 0 {
		t.Errorf("%d of one root, %d of unlike ones", found, apart)
	}
}

// P15.7: which leaf stands where matters.
func TestOrderMatters(t *testing.T) {
	for h := 1; h <= 5; h++ {
		l := numbered(1 << h)
		was := mustNew(t, 32, l).Root()
		for i := range l {
			for j := range i {
				l[i], l[j] = l[j], l[i]
				if got := mustNew(t, 32, l).Root(); got.Hash == was.Hash || got.Total != was.Total || got.Height != h {
					t.Errorf("%d and %d in each other's place: %#v", i, j, got)
				}
				l[i], l[j] = l[j], l[i]
			}
		}
	}
}

// What is handed in stays as it is; and a tree stays as it is, whatever becomes of what was handed in, or told.
func TestNothingIsShared(t *testing.T) {
	r := picker(11)
	for h := range 7 {
		memory := pickLeaves(r, 1<<h+4)
		was := slices.Clone(memory)
		x := mustNew(t, 5, memory[:1<<h])
		mustSet(t, x, 0, memory[0])
		x.Copy()
		if !slices.Equal(memory, was) {
			t.Fatalf("height %d: changed", h)
		}
		l := was[:1<<h]
		for i := range memory {
			memory[i] = api.Leaf{Id: "spoilt"}
		}
		checkTree(t, "what was handed in is spoilt", x, 5, l)
		told, again := x.Leaves(), x.Leaves()
		for i := range told {
			told[i] = api.Leaf{Id: "spoilt"}
		}
		if !slices.Equal(again, l) {
			t.Errorf("height %d: two answers share memory", h)
		}
		checkTree(t, "what was told is spoilt", x, 5, l)
		if grown := append(again, api.Leaf{}); len(grown) != 1<<h+1 {
			t.Errorf("height %d: %d", h, len(grown))
		}
		checkTree(t, "what was told is grown", x, 5, l)
	}
}

// With an error what was handed in stays as it is, too.
func TestNothingIsChangedWithAnError(t *testing.T) {
	for _, l := range [][]api.Leaf{numbered(3), {{}, {Id: "a"}}, {rich(num(top, top)), rich(num(0, 1))}} {
		for _, width := range []int{0, 4, 33} {
			was := slices.Clone(l)
			if x, e := tree.New(width, l); x != nil || e == api.OK || !slices.Equal(l, was) {
				t.Errorf("%#v: error %d", l, e)
			}
		}
	}
}

// inside tells whether the text's memory is within the whole's.
func inside(s, whole string) bool {
	at, from := uintptr(unsafe.Pointer(unsafe.StringData(s))), uintptr(unsafe.Pointer(unsafe.StringData(whole)))
	return s != "" && at >= from && at < from+uintptr(len(whole))
}

// Texts that are handed in aren't kept, and what is told is the caller's own: no two answers lie in one memory.
func TestMemoryOfItsOwn(t *testing.T) {
	whole := strings.Clone("idsaltID")
	l := []api.Leaf{{Id: whole[:2], Salt: whole[2:6]}, {Pad: true, Salt: whole[2:6]}}
	x := mustNew(t, 32, l)
	mustSet(t, x, 1, api.Leaf{Id: whole[6:], Salt: whole[2:6]})
	y := x.Copy()
	var leaves []api.Leaf
	for _, z := range []*tree.Tree{x, y} {
		leaves = append(leaves, z.Leaves()...)
		for range 2 {
			for position := range uint64(2) {
				one, _ := z.Leaf(position)
				leaves = append(leaves, one)
			}
		}
	}
	for i, a := range leaves {
		if inside(a.Id, whole) || inside(a.Salt, whole) {
			t.Errorf("%d lies in what was handed in", i)
		}
		for j, b := range leaves[:i] {
			if inside(a.Id, b.Id) || inside(a.Salt, b.Salt) {
				t.Errorf("%d and %d lie in one memory", i, j)
			}
		}
	}
	checkHashesApart(t, x, y)
}

// checkHashesApart checks that no two digests of those that two trees tell lie in one memory.
func checkHashesApart(t *testing.T, trees ...*tree.Tree) {
	t.Helper()
	var hashes []string
	for _, x := range trees {
		for range 2 {
			for level := range x.Height() + 1 {
				n, _ := x.Node(level, 0)
				hashes = append(hashes, n.Hash)
			}
			hashes = append(hashes, x.Root().Hash)
		}
	}
	for i, a := range hashes {
		for j, b := range hashes[:i] {
			if a == "" || inside(a, b) {
				t.Errorf("the digests %d and %d lie in one memory", i, j)
			}
		}
	}
}

// What is told hangs on nothing else: asked again it is the same, and asking changes nothing.
func TestAskedAgain(t *testing.T) {
	r := picker(12)
	l := pickLeaves(r, 32)
	x := mustNew(t, 9, l)
	for range 3 {
		checkTree(t, "asked again", x, 9, l)
	}
	stays(t, "beyond", x, 32, l[0], api.ErrArg, l)
	stays(t, "wrong", x, 31, api.Leaf{}, api.ErrLeaf, l)
}
