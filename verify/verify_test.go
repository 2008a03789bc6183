package verify_test

import (
	"crypto/sha256"
	"math"
	"math/big"
	"math/rand/v2"
	"slices"
	"strconv"
	"strings"
	"testing"
	"unicode/utf8"
	"unsafe"

	"paymaster/api"
	"paymaster/proof"
	"paymaster/tree"
	"paymaster/verify"
)

const top = math.MaxUint64

func num(hi, lo uint64) api.U128 { return api.U128{Hi: hi, Lo: lo} }

// picker tells what chance (always the same one, of that seed) picks.
func picker(seed uint64) *rand.Rand { return rand.New(rand.NewPCG(17, seed)) }

// pickText tells n bytes that chance picks.
func pickText(r *rand.Rand, n int) string {
	b := make([]byte, n)
	for i := range b {
		b[i] = byte(r.Uint32())
	}
	return string(b)
}

// pickLeaf tells a leaf that may be, with so small a balance that there is room for 2^16 of them.
func pickLeaf(r *rand.Rand) api.Leaf {
	salt := pickText(r, r.IntN(33))
	if r.IntN(3) == 0 {
		return api.Leaf{Pad: true, Salt: salt}
	}
	return api.Leaf{Id: "id" + strconv.Itoa(r.IntN(1000)), Salt: salt, Balance: num(r.Uint64()>>(16+r.UintN(49)), r.Uint64()>>r.UintN(65))}
}

// pickTree tells a tree of that width and height, of leaves no two of which are the same.
func pickTree(t *testing.T, r *rand.Rand, width, height int) *tree.Tree {
	t.Helper()
	l := make([]api.Leaf, 1<<height)
	for i := range l {
		l[i] = pickLeaf(r)
		l[i].Salt = strconv.Itoa(i) + "." + l[i].Salt[:min(len(l[i].Salt), 20)]
	}
	x, e := tree.New(width, l)
	if e != api.OK {
		t.Fatalf("a tree of the width %d, of the height %d: error %d", width, height, e)
	}
	return x
}

// pickSides tells so many sides of that width, with so small sums that there is room for all.
func pickSides(r *rand.Rand, many, width int) []api.Node {
	var l []api.Node
	for range many {
		l = append(l, api.Node{Hash: pickText(r, width), Sum: num(r.Uint64()>>(16+r.UintN(49)), r.Uint64()>>r.UintN(65))})
	}
	return l
}

// pickEntry tells an entry of that width and height of which something comes.
func pickEntry(r *rand.Rand, width, height int) api.Entry {
	return api.Entry{Leaf: pickLeaf(r), Proof: api.Proof{Position: r.Uint64() & (1<<height - 1), Sides: pickSides(r, height, width)}}
}

// sixteen tells a sum's bytes.
func sixteen(sum *big.Int) string { return string(sum.FillBytes(make([]byte, 16))) }

// endless tells a sum as a number without end.
func endless(n api.U128) *big.Int {
	hi := new(big.Int).SetUint64(n.Hi)
	return hi.Lsh(hi, 64).Add(hi, new(big.Int).SetUint64(n.Lo))
}

// short tells the digest, of that width, by the library's SHA-256.
func short(width int, text string) string {
	d := sha256.Sum256([]byte(text))
	return string(d[:width])
}

// mayLeaf tells whether a leaf may be, by the document's words.
func mayLeaf(l api.Leaf) bool {
	if len(l.Salt) > 32 {
		return false
	}
	if l.Pad {
		return l.Id == "" && l.Balance == api.U128{}
	}
	letters := "abcdefghijklmnopqrstuvwxyzABCDEFGHIJKLMNOPQRSTUVWXYZ0123456789._-"
	wrong := func(r rune) bool { return r < 161 && !strings.ContainsRune(letters, r) }
	n := utf8.RuneCountInString(l.Id)
	return utf8.ValidString(l.Id) && 1 <= n && n <= 24 && !strings.ContainsFunc(l.Id, wrong)
}

// leafText tells what is digested of a leaf that may be.
func leafText(l api.Leaf) string {
	salt := string([]byte{byte(len(l.Salt))}) + l.Salt
	if l.Pad {
		return "\x02" + salt
	}
	return "\x00" + string([]byte{byte(len(l.Id))}) + l.Id + salt + sixteen(endless(l.Balance))
}

// way tells all texts on the way up from the leaf, which may be, by sides that are of the width; the last one's sum; and whether each has room.
func way(width int, e api.Entry) (texts []string, sum *big.Int, room bool) {
	texts, sum, room = []string{leafText(e.Leaf)}, endless(e.Leaf.Balance), true
	for level, side := range e.Proof.Sides {
		l, r := short(width, texts[level])+sixteen(sum), side.Hash+sixteen(endless(side.Sum))
		if e.Proof.Position>>level%2 == 1 {
			l, r = r, l
		}
		sum = new(big.Int).Add(sum, endless(side.Sum))
		if sum.BitLen() > 128 {
			return texts, sum, false
		}
		texts = append(texts, "\x01"+l+r)
	}
	return texts, sum, true
}

// wantMay tells what May must tell.
func wantMay(r api.Root) api.Errno {
	switch {
	case r.Height < 0 || r.Height > 63:
		return api.ErrHeight
	case len(r.Hash) < 1 || len(r.Hash) > 32:
		return api.ErrWidth
	}
	return api.OK
}

// wantShape tells what layer 16 must tell.
func wantShape(width, height int, p api.Proof) api.Errno {
	wrong := func(side api.Node) bool { return len(side.Hash) != width }
	leaves := new(big.Int).Lsh(big.NewInt(1), uint(max(height, 0)))
	switch {
	case height < 0 || height > 63:
		return api.ErrHeight
	case width < 1 || width > 32 || slices.ContainsFunc(p.Sides, wrong):
		return api.ErrWidth
	case len(p.Sides) != height || new(big.Int).SetUint64(p.Position).Cmp(leaves) >= 0:
		return api.ErrProof
	}
	return api.OK
}

// wantUnder tells what must come of an entry, of that width and height.
func wantUnder(width, height int, e api.Entry) (api.Root, api.Errno) {
	if !mayLeaf(e.Leaf) {
		return api.Root{}, api.ErrLeaf
	}
	if f := wantShape(width, height, e.Proof); f != api.OK {
		return api.Root{}, f
	}
	texts, sum, room := way(width, e)
	if !room {
		return api.Root{}, api.ErrSum
	}
	total := num(new(big.Int).Rsh(sum, 64).Uint64(), new(big.Int).And(sum, new(big.Int).SetUint64(top)).Uint64())
	return api.Root{Hash: short(width, texts[height]), Total: total, Height: height}, api.OK
}

// wantCheck tells what Check must tell.
func wantCheck(r api.Root, e api.Entry) api.Errno {
	if f := wantMay(r); f != api.OK {
		return f
	}
	root, f := wantUnder(len(r.Hash), r.Height, e)
	if f == api.OK && root != r {
		return api.ErrProof
	}
	return f
}

// check holds Up and Check against what they must tell.
func check(t *testing.T, what string, width int, r api.Root, e api.Entry) {
	t.Helper()
	want, wantErr := wantUnder(width, len(e.Proof.Sides), e)
	if got, f := verify.Up(width, e); got != want || f != wantErr {
		t.Errorf("%s: Up(%d, %#v): %#v %d, not %#v %d", what, width, e, got, f, want, wantErr)
	}
	if got, want := verify.Check(r, e), wantCheck(r, e); got != want {
		t.Errorf("%s: Check(%#v, %#v): %d, not %d", what, r, e, got, want)
	}
}

// mustUp tells the root that comes of an entry of which one comes.
func mustUp(t *testing.T, width int, e api.Entry) api.Root {
	t.Helper()
	r, f := verify.Up(width, e)
	if f != api.OK {
		t.Fatalf("Up(%d, %#v): error %d", width, e, f)
	}
	return r
}

// twin tells the same entry with sides of its own.
func twin(e api.Entry) api.Entry {
	e.Proof.Sides = slices.Clone(e.Proof.Sides)
	return e
}

// The document's examples.
func TestExample(t *testing.T) {
	e := api.Entry{Leaf: api.Leaf{Id: "a", Salt: "s", Balance: num(0, 5)}}
	d := sha256.Sum256([]byte("\x00\x01a\x01s" + strings.Repeat("\x00", 15) + "\x05"))
	r := api.Root{Hash: string(d[:]), Total: num(0, 5)}
	if f := verify.Check(r, e); f != api.OK {
		t.Errorf("a leaf alone: %d", f)
	}
	r.Height = 64
	if f := verify.Check(r, e); f != api.ErrHeight {
		t.Errorf("the height 64: %d", f)
	}
	// DOC.md's example 2: a side with the right digest, and one less of sum.
	e.Proof.Sides = []api.Node{{Hash: string(d[:]), Sum: num(0, 7)}}
	r = mustUp(t, 32, e)
	e.Proof.Sides[0].Sum.Lo--
	if f := verify.Check(r, e); f != api.ErrProof || r.Total != num(0, 12) || r.Height != 1 {
		t.Errorf("one less of sum: %d, %#v", f, r)
	}
}

// someHeights and someWidths are some that may be, and some that may not.
func someHeights() []int {
	return []int{0, 1, 2, 10, 11, 31, 32, 62, 63, 64, 65, 127, 128, 256, -1, -2, -63, -64, 1 << 32, 1<<32 + 1, math.MaxInt, math.MinInt, math.MinInt + 1}
}

func someWidths() []int { return []int{0, 1, 2, 20, 31, 32, 33, 64, 255, 256, 257, 288, 1 << 16} }

// P17.1: heights and digests that may be and that may not, with each; what the total is doesn't matter, nor what bytes there are.
func TestMay(t *testing.T) {
	for _, height := range someHeights() {
		for _, width := range someWidths() {
			for _, one := range []string{"a", "\x00", "\xff"} {
				for _, total := range []api.U128{{}, num(top, top)} {
					r := api.Root{Hash: strings.Repeat(one, width), Total: total, Height: height}
					if got, want := verify.May(r), wantMay(r); got != want {
						t.Errorf("height %d, %d bytes: %d, not %d", height, width, got, want)
					}
				}
			}
		}
	}
	// Bytes are counted, not runes.
	if e := verify.May(api.Root{Hash: strings.Repeat("ä", 17)}); e != api.ErrWidth {
		t.Errorf("17 runes of two bytes: %d", e)
	}
}

// P17.2, P17.3: all heights and widths, at positions of all kinds.
func TestUp(t *testing.T) {
	r := picker(1)
	for height := range 64 {
		for width := 1; width <= 32; width++ {
			e := pickEntry(r, width, height)
			for _, position := range []uint64{e.Proof.Position, 0, 1<<height - 1, 1 << height, 1<<height | 1<<63, top} {
				e.Proof.Position = position
				root, _ := wantUnder(width, height, e)
				check(t, "up", width, root, e)
			}
		}
	}
}

// P17.2: widths that may not be, with sides of them and without sides.
func TestUpOfWrongWidths(t *testing.T) {
	r := picker(2)
	for _, width := range append(someWidths(), -1, -32, math.MinInt, math.MaxInt, 1<<32+1) {
		for _, height := range []int{0, 1, 2, 63, 64} {
			e := pickEntry(r, max(min(width, 300), 0), height%64)
			e.Proof.Sides = append(e.Proof.Sides, pickSides(r, height-height%64, 300)...)
			check(t, "width", width, api.Root{}, e)
		}
	}
}

// P17.2, P17.3: sums up to the greatest, and one more, wherever it comes to be.
func TestSums(t *testing.T) {
	for height := 1; height <= 63; height++ {
		e := api.Entry{Leaf: api.Leaf{Id: "rich", Balance: num(0, 1)}}
		e.Proof.Sides = slices.Repeat([]api.Node{{Hash: "ab"}}, height)
		for at := range height {
			e.Proof.Sides[at].Sum = num(top, top-1)
			root := mustUp(t, 2, e)
			if root.Total != num(top, top) {
				t.Fatalf("height %d, at %d: %#v", height, at, root)
			}
			check(t, "the greatest", 2, root, e)
			for _, more := range []int{at, 0, height - 1} {
				x := twin(e)
				if x.Proof.Sides[more].Sum.Lo++; more == at {
					x.Proof.Sides[more].Sum.Lo = top
				}
				if got, f := verify.Up(2, x); f != api.ErrSum || got != (api.Root{}) {
					t.Errorf("height %d, at %d, one more at %d: %d %#v", height, at, more, f, got)
				}
				if f := verify.Check(root, x); f != api.ErrSum {
					t.Errorf("height %d, at %d, one more at %d: %d", height, at, more, f)
				}
			}
			e.Proof.Sides[at].Sum = num(0, 0)
		}
	}
}

// fault is a thing to spoil, and what error it has.
type fault struct {
	name  string
	spoil func(r *api.Root, e *api.Entry)
}

// faults are in the order in which their errors are told, of a root of the height 6.
func faults() []fault {
	return []fault{
		{"height", func(r *api.Root, e *api.Entry) { r.Height = 64 }},
		{"below", func(r *api.Root, e *api.Entry) { r.Height = -1 }},
		{"no digest", func(r *api.Root, e *api.Entry) { r.Hash = "" }},
		{"long digest", func(r *api.Root, e *api.Entry) { r.Hash = strings.Repeat("h", 33) }},
		{"leaf's id", func(r *api.Root, e *api.Entry) { e.Leaf.Id = "a b" }},
		{"leaf's salt", func(r *api.Root, e *api.Entry) { e.Leaf.Salt = strings.Repeat("s", 33) }},
		{"other width", func(r *api.Root, e *api.Entry) { r.Hash += "x" }},
		{"first side", func(r *api.Root, e *api.Entry) { e.Proof.Sides[0].Hash += "x" }},
		{"last side", func(r *api.Root, e *api.Entry) { e.Proof.Sides[len(e.Proof.Sides)-1].Hash = "" }},
		{"more sides", func(r *api.Root, e *api.Entry) { e.Proof.Sides = append(e.Proof.Sides, e.Proof.Sides[1]) }},
		{"less sides", func(r *api.Root, e *api.Entry) { e.Proof.Sides = e.Proof.Sides[1:] }},
		{"other height", func(r *api.Root, e *api.Entry) { r.Height-- }},
		{"position", func(r *api.Root, e *api.Entry) { e.Proof.Position |= 1 << 6 }},
		{"sum", func(r *api.Root, e *api.Entry) { e.Proof.Sides[2].Sum = num(top, top) }},
		{"total", func(r *api.Root, e *api.Entry) { r.Total.Lo++ }},
		{"other digest", func(r *api.Root, e *api.Entry) {
			r.Hash = r.Hash[:len(r.Hash)/2] + strings.Repeat("\x00", len(r.Hash)-len(r.Hash)/2)
		}},
		{"balance", func(r *api.Root, e *api.Entry) { e.Leaf.Balance.Lo++ }},
		{"turned", func(r *api.Root, e *api.Entry) { e.Proof.Position ^= 8 }},
	}
}

// P17.2, P17.3: any two faults, and any three, one behind the other: the first that there is, is told.
func TestOrder(t *testing.T) {
	r := picker(3)
	e := pickEntry(r, 9, 6)
	e.Leaf = api.Leaf{Id: "a", Balance: num(0, 9)}
	root := mustUp(t, 9, e)
	seen := map[api.Errno]int{}
	for _, a := range faults() {
		for _, b := range faults() {
			for _, c := range faults() {
				gotRoot, got := root, twin(e)
				for _, one := range []fault{c, b, a} {
					one.spoil(&gotRoot, &got)
				}
				check(t, a.name+", "+b.name+", "+c.name, len(gotRoot.Hash), gotRoot, got)
				check(t, a.name+", "+b.name+", "+c.name, 9, gotRoot, got)
				seen[verify.Check(gotRoot, got)]++
			}
		}
	}
	for _, one := range []api.Errno{api.ErrHeight, api.ErrWidth, api.ErrLeaf, api.ErrProof, api.ErrSum} {
		if seen[one] == 0 {
			t.Errorf("%d was never told", one)
		}
	}
}

// P17.3: each error is told by name, of one fault alone, so that the test's own words don't hide one.
func TestCheckErrors(t *testing.T) {
	r := picker(4)
	e := pickEntry(r, 9, 6)
	e.Leaf = api.Leaf{Id: "a", Balance: num(0, 9)}
	root := mustUp(t, 9, e)
	want := []api.Errno{120, 120, 70, 70, 130, 130, 70, 70, 70, 160, 160, 160, 160, 10, 160, 160, 160, 160}
	for i, one := range faults() {
		gotRoot, got := root, twin(e)
		one.spoil(&gotRoot, &got)
		if f := verify.Check(gotRoot, got); f != want[i] {
			t.Errorf("%s: %d, not %d", one.name, f, want[i])
		}
	}
	if f := verify.Check(root, e); f != api.OK {
		t.Errorf("nothing is spoilt: %d", f)
	}
}

// P17.2, P17.3: leaves that may be, and that may not, alone and with a side.
func TestLeaves(t *testing.T) {
	for _, one := range []api.Leaf{
		{}, {Id: "a"}, {Id: ""}, {Id: "a b"}, {Id: "\xff"}, {Id: "\u00a0"}, {Id: "¡"}, {Id: "\ufffd"}, {Id: "a\n"},
		{Id: strings.Repeat("ä", 24)}, {Id: strings.Repeat("a", 25)}, {Id: "a", Balance: num(top, top)},
		{Id: "a", Salt: strings.Repeat("\xff", 32)}, {Id: "a", Salt: strings.Repeat("s", 33)}, {Id: "a", Salt: strings.Repeat("s", 300)},
		{Pad: true}, {Pad: true, Salt: strings.Repeat("s", 32)}, {Pad: true, Salt: strings.Repeat("s", 33)},
		{Pad: true, Id: "a"}, {Pad: true, Balance: num(0, 1)}, {Pad: true, Balance: num(1, 0)},
	} {
		for _, sides := range [][]api.Node{nil, {}, {{Hash: "abc"}}, {{Hash: "abc"}, {Hash: "abc", Sum: num(0, 1)}}} {
			e := api.Entry{Leaf: one, Proof: api.Proof{Sides: sides}}
			root, _ := wantUnder(3, len(sides), e)
			check(t, "leaf", 3, root, e)
			check(t, "leaf, under a root that may not be", 0, api.Root{Height: 64}, e)
		}
	}
}

// P17.3: the place of the first that doesn't hold.
func TestAll(t *testing.T) {
	r := picker(5)
	x := pickTree(t, r, 7, 4)
	root, all := x.Root(), proof.All(x)
	if n, f := verify.All(root, all); n != 16 || f != api.OK {
		t.Errorf("all hold: %d %d", n, f)
	}
	for place := range all {
		l := slices.Clone(all)
		l[place].Leaf.Salt += "."
		if n, f := verify.All(root, l); n != place || f != api.ErrProof {
			t.Errorf("%d doesn't: %d %d", place, n, f)
		}
		for behind := place + 1; behind < len(l); behind++ {
			l[behind].Leaf.Pad, l[behind].Leaf.Id = true, "a"
		}
		if n, f := verify.All(root, l); n != place || f != api.ErrProof {
			t.Errorf("%d doesn't, nor does any behind it: %d %d", place, n, f)
		}
		l[place].Leaf.Pad, l[place].Leaf.Id = true, "a"
		if n, f := verify.All(root, l); n != place || f != api.ErrLeaf {
			t.Errorf("the leaf at %d may not be: %d %d", place, n, f)
		}
	}
	// One entry again and again is as good as any; nobody asks for unlike places.
	if n, f := verify.All(root, slices.Repeat(all[3:4], 100)); n != 100 || f != api.OK {
		t.Errorf("one again and again: %d %d", n, f)
	}
}

// P17.3: of no entries all hold, whatever the root is; of some the root's own error is told at the first.
func TestAllOfWrongRoots(t *testing.T) {
	x := pickTree(t, picker(6), 7, 2)
	for _, root := range []api.Root{{}, {Hash: "a", Height: 64}, {Hash: "a", Height: -1}, {Hash: strings.Repeat("a", 33)}, x.Root()} {
		for _, none := range [][]api.Entry{nil, {}} {
			if n, f := verify.All(root, none); n != 0 || f != api.OK {
				t.Errorf("%#v, no entries: %d %d", root, n, f)
			}
		}
		if n, f := verify.All(root, proof.All(x)); f != wantMay(root) || f != api.OK && n != 0 {
			t.Errorf("%#v: %d %d", root, n, f)
		}
	}
}

// others tells roots of that root's width, none of which it is.
func others(r api.Root) []api.Root {
	var l []api.Root
	add := func(change func(x *api.Root)) {
		x := r
		change(&x)
		l = append(l, x)
	}
	for i := range r.Hash {
		add(func(x *api.Root) { x.Hash = r.Hash[:i] + string([]byte{r.Hash[i] ^ 1}) + r.Hash[i+1:] })
		add(func(x *api.Root) { x.Hash = r.Hash[:i] + string([]byte{r.Hash[i] ^ 128}) + r.Hash[i+1:] })
	}
	add(func(x *api.Root) { x.Total.Lo++ })
	add(func(x *api.Root) { x.Total.Lo-- })
	add(func(x *api.Root) { x.Total.Hi ^= 1 })
	add(func(x *api.Root) { x.Total.Hi ^= 1 << 63 })
	for height := -1; height < 66; height++ {
		if height != r.Height {
			add(func(x *api.Root) { x.Height = height })
		}
	}
	return l
}

// checkOthers checks that an entry holds under that root, and under no other one of its width.
func checkOthers(t *testing.T, r api.Root, e api.Entry) {
	t.Helper()
	if f := verify.Check(r, e); f != api.OK {
		t.Errorf("height %d, position %d: %d", r.Height, e.Proof.Position, f)
	}
	for _, other := range others(r) {
		want := api.ErrProof
		if other.Height < 0 || other.Height > 63 {
			want = api.ErrHeight
		}
		if f := verify.Check(other, e); f != want {
			t.Errorf("height %d, position %d: %#v, not %#v: %d, not %d", r.Height, e.Proof.Position, other, r, f, want)
		}
	}
}

// P17.4: honest ones, at all heights that are built.
func TestHonest(t *testing.T) {
	r := picker(7)
	for height := range 11 {
		for _, width := range []int{1, 2 + r.IntN(30), 32} {
			x := pickTree(t, r, width, height)
			root, all := x.Root(), proof.All(x)
			if n, f := verify.All(root, all); n != 1<<height || f != api.OK {
				t.Fatalf("width %d, height %d: %d %d", width, height, n, f)
			}
			for range 5 {
				e := all[r.IntN(len(all))]
				checkOthers(t, root, e)
				if got := mustUp(t, width, e); got != root {
					t.Errorf("width %d, height %d: %#v, not %#v", width, height, got, root)
				}
			}
		}
	}
}

// P17.4: under the root of a tree in which a leaf was set old entries hold no longer, that one's new one does.
func TestHonestAfterSet(t *testing.T) {
	r := picker(8)
	for height := range 6 {
		x := pickTree(t, r, 32, height)
		was := proof.All(x)
		at := r.IntN(len(was))
		x.Set(uint64(at), api.Leaf{Id: "new", Salt: "salt", Balance: num(0, 5)})
		for place, e := range was {
			if f := verify.Check(x.Root(), e); f != api.ErrProof {
				t.Errorf("height %d, %d of old: %d", height, place, f)
			}
		}
		if n, f := verify.All(x.Root(), proof.All(x)); n != len(was) || f != api.OK {
			t.Errorf("height %d: %d %d", height, n, f)
		}
	}
}

// P17.4: of other widths it doesn't hold; but of the height 0 it does, under each root that has the leaf's digest of its own width.
func TestOtherWidths(t *testing.T) {
	r := picker(9)
	for height := range 4 {
		x := pickTree(t, r, 32, height)
		e, _ := proof.Of(x, 1<<height-1)
		for width := 1; width < 32; width++ {
			root := x.Root()
			root.Hash = root.Hash[:width]
			want := api.ErrWidth
			if height == 0 {
				want = api.OK
			}
			if f := verify.Check(root, e); f != want {
				t.Errorf("height %d, width %d: %d, not %d", height, width, f, want)
			}
		}
	}
}

// P17.5: whatever comes of an entry, honest or not, at heights up to 63: it holds under that root, and under no other one of its width.
func TestWhatComesOfIt(t *testing.T) {
	r := picker(10)
	for height := range 64 {
		width := 1 + r.IntN(32)
		e := pickEntry(r, width, height)
		checkOthers(t, mustUp(t, width, e), e)
	}
}

// P17.5: among all roots of the width 1, of small totals, and of small heights, there is just the one that Up tells.
func TestJustOne(t *testing.T) {
	for height := range 4 {
		e := api.Entry{Leaf: api.Leaf{Id: "a", Balance: num(0, 1)}}
		for i := range height {
			e.Proof.Sides = append(e.Proof.Sides, api.Node{Hash: string([]byte{byte(i)}), Sum: num(0, uint64(i))})
		}
		var held []api.Root
		for digest := range 256 {
			for total := range uint64(9) {
				for h := range 5 {
					r := api.Root{Hash: string([]byte{byte(digest)}), Total: num(0, total), Height: h}
					if verify.Check(r, e) == api.OK {
						held = append(held, r)
					}
				}
			}
		}
		if want := mustUp(t, 1, e); len(held) != 1 || held[0] != want {
			t.Errorf("height %d: %#v, not %#v", height, held, want)
		}
	}
}

// spoilt tells entries each of which isn't this one, in just one field.
func spoilt(r *rand.Rand, e api.Entry) []api.Entry {
	var l []api.Entry
	add := func(change func(x *api.Entry)) {
		x := twin(e)
		change(&x)
		l = append(l, x)
	}
	add(func(x *api.Entry) { x.Leaf.Pad = !x.Leaf.Pad })
	add(func(x *api.Entry) { x.Leaf.Id += "a" })
	add(func(x *api.Entry) { x.Leaf.Id = "" })
	add(func(x *api.Entry) { x.Leaf.Balance.Hi ^= 1 })
	add(func(x *api.Entry) { x.Leaf.Balance.Lo++ })
	add(func(x *api.Entry) { x.Leaf.Balance.Lo-- })
	for range 8 {
		add(func(x *api.Entry) { x.Leaf.Salt = pickText(r, 1+r.IntN(30)) })
	}
	for level := range 64 {
		add(func(x *api.Entry) { x.Proof.Position ^= 1 << level })
	}
	add(func(x *api.Entry) { x.Proof.Sides = append(x.Proof.Sides, api.Node{Hash: "h"}) })
	for i := range e.Proof.Sides {
		add(func(x *api.Entry) { x.Proof.Sides = slices.Delete(x.Proof.Sides, i, i+1) })
		add(func(x *api.Entry) { x.Proof.Sides[i].Sum.Hi ^= 1 })
		add(func(x *api.Entry) { x.Proof.Sides[i].Sum.Lo++ })
		add(func(x *api.Entry) { x.Proof.Sides[i].Hash += "\x00" })
		add(func(x *api.Entry) { x.Proof.Sides[i].Hash = x.Proof.Sides[i].Hash[1:] })
		add(func(x *api.Entry) {
			x.Proof.Sides[i].Hash = string([]byte{x.Proof.Sides[i].Hash[0] ^ byte(1+r.IntN(255))}) + x.Proof.Sides[i].Hash[1:]
		})
		add(func(x *api.Entry) { x.Proof.Sides[i], x.Proof.Sides[0] = x.Proof.Sides[0], x.Proof.Sides[i] })
	}
	return slices.DeleteFunc(l, func(x api.Entry) bool { return proof.Same(x, e) })
}

// collide tells whether among the texts on both ways there are two unlike ones with one digest.
func collide(width int, a, b api.Entry) bool {
	first, _, _ := way(width, a)
	second, _, _ := way(width, b)
	by := map[string]string{}
	for _, text := range append(first, second...) {
		d := short(width, text)
		if was, is := by[d]; is && was != text {
			return true
		}
		by[d] = text
	}
	return false
}

// likeSides tells whether the entry comes to nodes that are the same as the sides beside, at all levels at which the other position turns: then both ways have the same texts.
func likeSides(width int, e api.Entry, position uint64) bool {
	for level, side := range e.Proof.Sides {
		below := e
		below.Proof = api.Proof{Position: e.Proof.Position & (1<<level - 1), Sides: e.Proof.Sides[:level]}
		at, f := verify.Up(width, below)
		if (e.Proof.Position^position)>>level%2 == 1 && (f != api.OK || at.Hash != side.Hash || at.Total != side.Sum) {
			return false
		}
	}
	return true
}

// P17.6: of the width 32 no spoilt one holds; of the width 1 those that hold have two unlike texts with one digest (but those that are turned where the same node stands on both sides).
func TestSpoilt(t *testing.T) {
	r := picker(11)
	held := 0
	for height := range 7 {
		for _, width := range []int{1, 1, 1, 1, 2, 32} {
			x := pickTree(t, r, width, height)
			root := x.Root()
			for _, e := range proof.All(x) {
				for _, other := range spoilt(r, e) {
					if verify.Check(root, other) != api.OK {
						continue
					}
					held++
					turned := other.Proof.Position != e.Proof.Position && likeSides(width, e, other.Proof.Position)
					if width == 32 || !turned && !collide(width, e, other) {
						t.Errorf("width %d, height %d: %#v, not %#v, holds", width, height, other, e)
					}
				}
			}
		}
	}
	if held == 0 {
		t.Error("none held")
	}
}

// P17.6: a leaf that isn't at its place, or stands beside its place, or has another one's proof, doesn't hold.
func TestForged(t *testing.T) {
	x := pickTree(t, picker(12), 32, 4)
	all := proof.All(x)
	for i, a := range all {
		for j, b := range all {
			e := api.Entry{Leaf: a.Leaf, Proof: b.Proof}
			want := api.ErrProof
			if i == j {
				want = api.OK
			}
			if f := verify.Check(x.Root(), e); f != want {
				t.Errorf("the leaf of %d, the proof of %d: %d, not %d", i, j, f, want)
			}
		}
	}
}

// Any roots with any entries of few things to choose from, most of them wrong.
func TestAnything(t *testing.T) {
	r := picker(13)
	told := map[api.Errno]int{}
	for range 30000 {
		width := []int{1, 1, 1, 2, 0, 33, -1}[r.IntN(7)]
		height := r.IntN(4)
		e := api.Entry{Leaf: pickLeaf(r), Proof: api.Proof{Position: r.Uint64N(1<<height + 1)}}
		e.Leaf.Balance.Hi <<= r.UintN(2) * 16
		e.Proof.Sides = pickSides(r, height, max(width, 0))
		for i := range e.Proof.Sides {
			e.Proof.Sides[i].Sum.Hi <<= r.UintN(2) * 16
		}
		if r.IntN(8) == 0 {
			e.Leaf.Id = []string{"", "a", " "}[r.IntN(3)]
		}
		root, f := wantUnder(width, height, e)
		if r.IntN(3) == 0 {
			root.Total.Lo ^= uint64(r.IntN(2))
			root.Height += r.IntN(3) - 1
		}
		told[f]++
		check(t, "anything", width, root, e)
	}
	if len(told) != 5 || told[api.OK] < 1000 {
		t.Errorf("told: %v", told)
	}
}

// What comes in is as odd as can be; no call panics.
func TestOdd(t *testing.T) {
	for _, many := range []int{0, 1, 63, 64, 65, 3000} {
		for _, hash := range []string{"", "a", strings.Repeat("a", 32), strings.Repeat("a", 3000)} {
			e := api.Entry{Leaf: api.Leaf{Id: "a", Balance: num(top, top)}, Proof: api.Proof{Position: top}}
			e.Proof.Sides = slices.Repeat([]api.Node{{Hash: hash, Sum: num(top, top)}}, many)
			for _, height := range someHeights() {
				check(t, "odd", len(hash), api.Root{Hash: hash, Height: height, Total: num(top, top)}, e)
			}
		}
	}
}

// What is told is the caller's own: a root that comes of an entry shares no memory with it, nor with that of another call.
func TestMemoryOfItsOwn(t *testing.T) {
	r := picker(14)
	for height := range 5 {
		e := pickEntry(r, 32, height)
		a, b := mustUp(t, 32, e), mustUp(t, 32, e)
		texts := []string{b.Hash, e.Leaf.Id, e.Leaf.Salt}
		for _, side := range e.Proof.Sides {
			texts = append(texts, side.Hash)
		}
		for _, text := range texts {
			if text != "" && unsafe.StringData(a.Hash) == unsafe.StringData(text) {
				t.Errorf("height %d: memory is shared", height)
			}
		}
	}
}

// What is handed in stays as it is; asked again, the same is told.
func TestNothingIsChanged(t *testing.T) {
	r := picker(15)
	for height := range 6 {
		x := pickTree(t, r, 7, height)
		root, all := x.Root(), proof.All(x)
		for place := range all {
			was := twin(all[place])
			memory := append(slices.Clip(all[place].Proof.Sides), api.Node{Hash: "behind"})
			all[place].Proof.Sides = memory[:height]
			for range 2 {
				again := mustUp(t, 7, all[place])
				if n, f := verify.All(root, all); again != root || n != len(all) || f != api.OK {
					t.Errorf("height %d: %d %d, %#v", height, n, f, again)
				}
			}
			if !proof.Same(all[place], was) || memory[height].Hash != "behind" {
				t.Errorf("height %d: %d is changed", height, place)
			}
		}
	}
}
