package trace_test

import (
	"crypto/sha256"
	"math"
	"math/big"
	"math/rand/v2"
	"slices"
	"strconv"
	"strings"
	"testing"
	"unicode/utf8"
	"unsafe"

	"paymaster/api"
	"paymaster/proof"
	"paymaster/tag"
	"paymaster/trace"
	"paymaster/tree"
	"paymaster/verify"
)

const top = math.MaxUint64

func num(hi, lo uint64) api.U128 { return api.U128{Hi: hi, Lo: lo} }

// picker tells what chance (always the same one, of that seed) picks.
func picker(seed uint64) *rand.Rand { return rand.New(rand.NewPCG(18, seed)) }

// pickText tells n bytes that chance picks.
func pickText(r *rand.Rand, n int) string {
	b := make([]byte, n)
	for i := range b {
		b[i] = byte(r.Uint32())
	}
	return string(b)
}

// pickSum tells so small a sum that there is room for 2^16 of them.
func pickSum(r *rand.Rand) api.U128 {
	return num(r.Uint64()>>(16+r.UintN(49)), r.Uint64()>>r.UintN(65))
}

// pickLeaf tells a leaf that may be.
func pickLeaf(r *rand.Rand) api.Leaf {
	salt := pickText(r, r.IntN(33))
	if r.IntN(3) == 0 {
		return api.Leaf{Pad: true, Salt: salt}
	}
	return api.Leaf{Id: "id" + strconv.Itoa(r.IntN(1000)), Salt: salt, Balance: pickSum(r)}
}

// pickNodes tells so many nodes of that width.
func pickNodes(r *rand.Rand, many, width int) []api.Node {
	var l []api.Node
	for range many {
		l = append(l, api.Node{Hash: pickText(r, width), Sum: pickSum(r)})
	}
	return l
}

// pickEntry tells an entry of that width and height of which something comes.
func pickEntry(r *rand.Rand, width, height int) api.Entry {
	return api.Entry{Leaf: pickLeaf(r), Proof: api.Proof{Position: r.Uint64() & (1<<height - 1), Sides: pickNodes(r, height, width)}}
}

// pickTree tells a tree of that width and height.
func pickTree(t *testing.T, r *rand.Rand, width, height int) *tree.Tree {
	t.Helper()
	l := make([]api.Leaf, 1<<height)
	for i := range l {
		l[i] = pickLeaf(r)
	}
	x, e := tree.New(width, l)
	if e != api.OK {
		t.Fatalf("a tree of the width %d, of the height %d: error %d", width, height, e)
	}
	return x
}

// mustUp tells the root that comes of an entry of which one comes.
func mustUp(t *testing.T, width int, e api.Entry) api.Root {
	t.Helper()
	r, f := verify.Up(width, e)
	if f != api.OK {
		t.Fatalf("Up(%d, %#v): error %d", width, e, f)
	}
	return r
}

// endless tells a sum as a number without end.
func endless(n api.U128) *big.Int {
	hi := new(big.Int).SetUint64(n.Hi)
	return hi.Lsh(hi, 64).Add(hi, new(big.Int).SetUint64(n.Lo))
}

// narrow tells a number of 128 bits.
func narrow(n *big.Int) api.U128 {
	return num(new(big.Int).Rsh(n, 64).Uint64(), new(big.Int).And(n, new(big.Int).SetUint64(top)).Uint64())
}

// sixteen tells a sum's bytes.
func sixteen(sum *big.Int) string { return string(sum.FillBytes(make([]byte, 16))) }

// short tells the digest, of that width, by the library's SHA-256.
func short(width int, text string) string {
	d := sha256.Sum256([]byte(text))
	return string(d[:width])
}

// leafText tells what is digested of a leaf that may be.
func leafText(l api.Leaf) string {
	salt := string([]byte{byte(len(l.Salt))}) + l.Salt
	if l.Pad {
		return "\x02" + salt
	}
	return "\x00" + string([]byte{byte(len(l.Id))}) + l.Id + salt + sixteen(endless(l.Balance))
}

// nodeText tells what is digested of a node of two.
func nodeText(l, r api.Node) string {
	return "\x01" + l.Hash + sixteen(endless(l.Sum)) + r.Hash + sixteen(endless(r.Sum))
}

// wantOf tells the trace of an entry that holds, by the document's words.
func wantOf(width int, e api.Entry) []trace.Step {
	steps := []trace.Step{{Level: 0, Place: e.Proof.Position, Text: leafText(e.Leaf)}}
	sum, bits := endless(e.Leaf.Balance), e.Proof.Position
	for level, side := range e.Proof.Sides {
		under := api.Node{Hash: short(width, steps[level].Text), Sum: narrow(sum)}
		text := nodeText(under, side)
		if bits%2 == 1 {
			text = nodeText(side, under)
		}
		sum.Add(sum, endless(side.Sum))
		bits /= 2
		steps = append(steps, trace.Step{Level: level + 1, Place: bits, Text: text})
	}
	return steps
}

// wantLeaf tells the leaf whose text it is, by the document's words.
func wantLeaf(text string) (l api.Leaf, is bool) {
	part := func() string {
		if text == "" || len(text)-1 < int(text[0]) {
			is, text = false, ""
			return ""
		}
		was, n := text, int(text[0])+1
		text = text[n:]
		return was[1:n]
	}
	if text == "" || text[0] != 0 && text[0] != 2 {
		return api.Leaf{}, false
	}
	is, l.Pad, text = true, text[0] == 2, text[1:]
	if !l.Pad {
		l.Id = part()
	}
	l.Salt = part()
	if l.Pad {
		return l, is && text == "" && len(l.Salt) <= 32
	}
	letters := "abcdefghijklmnopqrstuvwxyzABCDEFGHIJKLMNOPQRSTUVWXYZ0123456789._-"
	wrong := func(r rune) bool { return r < 161 && !strings.ContainsRune(letters, r) }
	n := utf8.RuneCountInString(l.Id)
	is = is && len(text) == 16 && len(l.Salt) <= 32 && utf8.ValidString(l.Id) && 1 <= n && n <= 24 && !strings.ContainsFunc(l.Id, wrong)
	l.Balance = narrow(new(big.Int).SetBytes([]byte(text)))
	return l, is
}

// wantSides tells what Sides must tell.
func wantSides(width int, text string) (l, r api.Node, is bool) {
	if width < 1 || width > 32 || len(text) != 33+2*width || text[0] != 1 {
		return api.Node{}, api.Node{}, false
	}
	read := func(s string) api.Node {
		return api.Node{Hash: s[:width], Sum: narrow(new(big.Int).SetBytes([]byte(s[width:])))}
	}
	return read(text[1 : 17+width]), read(text[17+width:]), true
}

// wantNode tells what Node must tell.
func wantNode(width int, text string) (api.Node, api.Errno) {
	if width < 1 || width > 32 {
		return api.Node{}, api.ErrWidth
	}
	if l, is := wantLeaf(text); is {
		return api.Node{Hash: short(width, text), Sum: l.Balance}, api.OK
	}
	l, r, is := wantSides(width, text)
	if !is {
		return api.Node{}, api.ErrLeaf
	}
	sum := new(big.Int).Add(endless(l.Sum), endless(r.Sum))
	if sum.BitLen() > 128 {
		return api.Node{}, api.ErrSum
	}
	return api.Node{Hash: short(width, text), Sum: narrow(sum)}, api.OK
}

// check holds Node and Sides of a text, wherever that stands, against what they must tell.
func check(t *testing.T, what string, width int, text string) {
	t.Helper()
	want, wantErr := wantNode(width, text)
	wantL, wantR, wantIs := wantSides(width, text)
	for _, s := range []trace.Step{{Text: text}, {Level: 5, Place: 3, Text: text}, {Level: -1, Place: top, Text: text}, {Level: math.MaxInt, Text: text}} {
		if got, e := trace.Node(width, s); got != want || e != wantErr {
			t.Errorf("%s: Node(%d, %#v): %#v %d, not %#v %d", what, width, s, got, e, want, wantErr)
		}
		if l, r, is := trace.Sides(width, s); l != wantL || r != wantR || is != wantIs {
			t.Errorf("%s: Sides(%d, %#v): %#v %#v %v, not %#v %#v %v", what, width, s, l, r, is, wantL, wantR, wantIs)
		}
	}
}

// checkNone checks that an entry that doesn't hold under the root has no trace.
func checkNone(t *testing.T, what string, r api.Root, e api.Entry) {
	t.Helper()
	if verify.Check(r, e) == api.OK {
		t.Errorf("%s: it holds", what)
	}
	if s := trace.Of(r, e); s != nil {
		t.Errorf("%s: Of(%#v, %#v): %#v", what, r, e, s)
	}
	if s := trace.All(r, []api.Entry{e, e}); s != nil {
		t.Errorf("%s: All(%#v, %#v): %#v", what, r, e, s)
	}
}

// twin tells the same entry with sides of its own.
func twin(e api.Entry) api.Entry {
	e.Proof.Sides = slices.Clone(e.Proof.Sides)
	return e
}

// The document's example: under a root of the height 1 the leaf's text, and the text of both leaves' nodes.
func TestExample(t *testing.T) {
	a, b := "\x00\x01a\x01s"+strings.Repeat("\x00", 15)+"\x05", "\x00\x01b\x00"+strings.Repeat("\x00", 14)+"\x01\x02"
	x, _ := tree.New(2, []api.Leaf{{Id: "a", Salt: "s", Balance: num(0, 5)}, {Id: "b", Balance: num(0, 258)}})
	both := "\x01" + short(2, a) + a[len(a)-16:] + short(2, b) + b[len(b)-16:]
	for place, text := range []string{a, b} {
		e, _ := proof.Of(x, uint64(place))
		want := []trace.Step{{Level: 0, Place: uint64(place), Text: text}, {Level: 1, Place: 0, Text: both}}
		if got := trace.Of(x.Root(), e); !slices.Equal(got, want) {
			t.Errorf("%d: %#v, not %#v", place, got, want)
		}
	}
	if n, e := trace.Node(2, trace.Step{Text: both}); e != api.OK || n != (api.Node{Hash: short(2, both), Sum: num(0, 263)}) {
		t.Errorf("both leaves' nodes: %#v %d", n, e)
	}
	l, r, is := trace.Sides(2, trace.Step{Text: both})
	if !is || l != (api.Node{Hash: short(2, a), Sum: num(0, 5)}) || r != (api.Node{Hash: short(2, b), Sum: num(0, 258)}) {
		t.Errorf("both leaves' nodes: %#v %#v %v", l, r, is)
	}
}

// P18.1: all heights and widths, at positions of all kinds.
func TestOf(t *testing.T) {
	r := picker(1)
	for height := range 64 {
		for width := 1; width <= 32; width++ {
			e := pickEntry(r, width, height)
			for _, position := range []uint64{e.Proof.Position, 1<<height - 1} {
				e.Proof.Position = position
				if got, want := trace.Of(mustUp(t, width, e), e), wantOf(width, e); !slices.Equal(got, want) {
					t.Errorf("width %d, %#v: %#v, not %#v", width, e, got, want)
				}
			}
		}
	}
}

// P18.1: each leaf of trees of all heights that are built: its steps are what the tree has on its way.
func TestOfTrees(t *testing.T) {
	r := picker(2)
	for height := range 11 {
		x := pickTree(t, r, 1+r.IntN(32), height)
		for position, e := range proof.All(x) {
			got := trace.Of(x.Root(), e)
			if len(got) != height+1 || got[0] != (trace.Step{Place: uint64(position), Text: leafText(e.Leaf)}) {
				t.Fatalf("height %d, %d: %#v", height, position, got)
			}
			for level := 1; level <= height; level++ {
				place := uint64(position) >> level
				left, _ := x.Node(level-1, 2*place)
				right, _ := x.Node(level-1, 2*place+1)
				if want := (trace.Step{Level: level, Place: place, Text: nodeText(left, right)}); got[level] != want {
					t.Errorf("height %d, %d: %#v, not %#v", height, position, got[level], want)
				}
			}
		}
	}
}

// P18.1: an entry that doesn't hold has no trace, whatever is wrong.
func TestOfNone(t *testing.T) {
	r := picker(3)
	e := pickEntry(r, 9, 6)
	e.Leaf = api.Leaf{Id: "a", Balance: num(0, 9)}
	root := mustUp(t, 9, e)
	for name, spoil := range map[string]func(r *api.Root, e *api.Entry){
		"no root":        func(r *api.Root, e *api.Entry) { *r = api.Root{} },
		"no entry":       func(r *api.Root, e *api.Entry) { *e = api.Entry{} },
		"neither":        func(r *api.Root, e *api.Entry) { *r, *e = api.Root{}, api.Entry{} },
		"height":         func(r *api.Root, e *api.Entry) { r.Height = 64 },
		"greatest":       func(r *api.Root, e *api.Entry) { r.Height = math.MaxInt },
		"below":          func(r *api.Root, e *api.Entry) { r.Height = -1 },
		"no digest":      func(r *api.Root, e *api.Entry) { r.Hash = "" },
		"long digest":    func(r *api.Root, e *api.Entry) { r.Hash = strings.Repeat("h", 33) },
		"other width":    func(r *api.Root, e *api.Entry) { r.Hash = r.Hash[:8] },
		"other digest":   func(r *api.Root, e *api.Entry) { r.Hash = strings.Repeat("h", 9) },
		"leaf's id":      func(r *api.Root, e *api.Entry) { e.Leaf.Id = "a b" },
		"leaf's salt":    func(r *api.Root, e *api.Entry) { e.Leaf.Salt = strings.Repeat("s", 33) },
		"pad's id":       func(r *api.Root, e *api.Entry) { e.Leaf.Pad = true },
		"first side":     func(r *api.Root, e *api.Entry) { e.Proof.Sides[0].Hash += "x" },
		"last side":      func(r *api.Root, e *api.Entry) { e.Proof.Sides[5].Hash = "" },
		"more sides":     func(r *api.Root, e *api.Entry) { e.Proof.Sides = append(e.Proof.Sides, e.Proof.Sides[1]) },
		"less sides":     func(r *api.Root, e *api.Entry) { e.Proof.Sides = e.Proof.Sides[:5] },
		"other height":   func(r *api.Root, e *api.Entry) { r.Height-- },
		"position":       func(r *api.Root, e *api.Entry) { e.Proof.Position |= 1 << 6 },
		"far position":   func(r *api.Root, e *api.Entry) { e.Proof.Position |= 1 << 63 },
		"no room":        func(r *api.Root, e *api.Entry) { e.Proof.Sides[2].Sum = num(top, top) },
		"total":          func(r *api.Root, e *api.Entry) { r.Total.Lo++ },
		"balance":        func(r *api.Root, e *api.Entry) { e.Leaf.Balance.Lo++ },
		"one less":       func(r *api.Root, e *api.Entry) { e.Proof.Sides[3].Sum.Lo-- },
		"turned":         func(r *api.Root, e *api.Entry) { e.Proof.Position ^= 8 },
		"the other salt": func(r *api.Root, e *api.Entry) { e.Leaf.Salt += "." },
	} {
		gotRoot, got := root, twin(e)
		spoil(&gotRoot, &got)
		checkNone(t, name, gotRoot, got)
	}
	if s := trace.Of(root, e); len(s) != 7 {
		t.Errorf("nothing is spoilt: %#v", s)
	}
}

// P18.1: of the width 1 a forged entry may hold; then its trace is its own.
func TestOfForged(t *testing.T) {
	r := picker(4)
	held := 0
	for range 3000 {
		x := pickTree(t, r, 1, 1)
		e, _ := proof.Of(x, r.Uint64N(2))
		e.Leaf.Salt = pickText(r, 8)
		if verify.Check(x.Root(), e) != api.OK {
			checkNone(t, "forged", x.Root(), e)
			continue
		}
		held++
		if got, want := trace.Of(x.Root(), e), wantOf(1, e); !slices.Equal(got, want) {
			t.Errorf("forged: %#v, not %#v", got, want)
		}
	}
	if held == 0 {
		t.Error("none held")
	}
}

// P18.1: of any row of entries, the traces of those that hold, one behind the other, however often one comes.
func TestAll(t *testing.T) {
	r := picker(5)
	for _, none := range [][]api.Entry{nil, {}} {
		if s := trace.All(api.Root{Hash: "a"}, none); s != nil {
			t.Errorf("of no entries: %#v", s)
		}
	}
	for range 200 {
		x := pickTree(t, r, 32, r.IntN(5))
		all := proof.All(x)
		var l []api.Entry
		var want []trace.Step
		for range r.IntN(20) {
			e := all[r.IntN(len(all))]
			if r.IntN(4) == 0 {
				e.Leaf.Salt = "another"
			} else {
				want = append(want, wantOf(32, e)...)
			}
			l = append(l, e)
		}
		if got := trace.All(x.Root(), l); !slices.Equal(got, want) {
			t.Errorf("%#v: %#v, not %#v", l, got, want)
		}
	}
}

// P18.2: all texts, in order, whatever the steps are.
func TestTexts(t *testing.T) {
	for _, none := range [][]trace.Step{nil, {}} {
		if got := trace.Texts(none); got != nil {
			t.Errorf("of no steps: %#v", got)
		}
	}
	r := picker(6)
	for range 100 {
		var steps []trace.Step
		var want []string
		for range r.IntN(30) {
			text := pickText(r, r.IntN(4)*r.IntN(40))
			steps = append(steps, trace.Step{Level: r.IntN(70) - 3, Place: r.Uint64(), Text: text})
			want = append(want, text)
		}
		if got := trace.Texts(steps); !slices.Equal(got, want) {
			t.Errorf("%#v: %#v", steps, got)
		}
	}
	x := pickTree(t, r, 5, 3)
	steps := trace.All(x.Root(), proof.All(x))
	texts := trace.Texts(steps)
	if len(texts) != 32 {
		t.Fatalf("%d texts", len(texts))
	}
	for i, s := range steps {
		if texts[i] != s.Text {
			t.Errorf("%d: %q, not %q", i, texts[i], s.Text)
		}
	}
}

// someWidths are all that may be, and some that may not.
func someWidths() []int {
	l := []int{0, -1, -16, -17, -32, 33, 34, 64, 255, 256, 257, 1 << 32, 1<<32 + 1, math.MaxInt, math.MaxInt - 1, math.MaxInt / 2, math.MinInt, math.MinInt + 1}
	for width := 1; width <= 32; width++ {
		l = append(l, width)
	}
	return l
}

// someTexts are leaves' texts, nodes', and some that are none.
func someTexts(r *rand.Rand) []string {
	l := []string{"", "\x00", "\x01", "\x02", "\x03", "\x02\x00", "\x02\x01", "\x00\x00", "\x00\x01a\x00", "\xff", strings.Repeat("\x01", 3000)}
	for width := range 35 {
		n := pickNodes(r, 2, width)
		l = append(l, nodeText(n[0], n[1]))
	}
	for range 20 {
		l = append(l, leafText(pickLeaf(r)))
	}
	return l
}

// P18.3, P18.4: texts of all kinds by widths that may be and that may not.
func TestNode(t *testing.T) {
	r := picker(7)
	texts := someTexts(r)
	for _, width := range someWidths() {
		for _, text := range texts {
			check(t, "node", width, text)
		}
	}
}

// P18.3: each error, and what is no error, by name, so that the test's own words don't hide one.
func TestNodeErrors(t *testing.T) {
	noughts := strings.Repeat("\x00", 15)
	most := strings.Repeat("\xff", 16)
	node := "\x01ab" + noughts + "\x03cd" + noughts + "\x04"
	for _, c := range []struct {
		width int
		text  string
		sum   api.U128
		e     api.Errno
	}{
		{2, node, num(0, 7), 0},
		{1, node, num(0, 0), 130},
		{3, node, num(0, 0), 130},
		{0, node, num(0, 0), 70},
		{33, node, num(0, 0), 70},
		{-2, node, num(0, 0), 70},
		{2, "\x01ab" + most + "cd" + noughts + "\x00", num(top, top), 0},
		{2, "\x01ab" + noughts + "\x00cd" + most, num(top, top), 0},
		{2, "\x01ab" + most + "cd" + noughts + "\x01", num(0, 0), 10},
		{2, "\x01ab" + noughts + "\x01cd" + most, num(0, 0), 10},
		{2, "\x01ab" + most + "cd" + most, num(0, 0), 10},
		{0, "\x01ab" + most + "cd" + most, num(0, 0), 70},
		{3, "\x01ab" + most + "cd" + most, num(0, 0), 130},
		{9, "\x00\x01a\x00" + most, num(top, top), 0},
		{9, "\x00\x01a\x00" + noughts + "\x09", num(0, 9), 0},
		{9, "\x00\x01 \x00" + noughts + "\x09", num(0, 0), 130},
		{9, "\x02\x03abc", num(0, 0), 0},
		{9, "\x02\x04abc", num(0, 0), 130},
		{0, "\x02\x03abc", num(0, 0), 70},
		{0, "", num(0, 0), 70},
		{32, "", num(0, 0), 130},
	} {
		want := api.Node{Sum: c.sum}
		if c.e == api.OK {
			want.Hash = short(c.width, c.text)
		}
		if got, e := trace.Node(c.width, trace.Step{Text: c.text}); got != want || e != c.e {
			t.Errorf("Node(%d, %q): %#v %d, not %#v %d", c.width, c.text, got, e, want, c.e)
		}
	}
}

// P18.3, P18.4: texts that end too early, wherever that is, or go on too far, or have one byte another one.
func TestSpoilt(t *testing.T) {
	r := picker(8)
	for width := 1; width <= 32; width++ {
		n := pickNodes(r, 2, width)
		for _, text := range []string{nodeText(n[0], n[1]), leafText(api.Leaf{Id: "abc", Salt: pickText(r, width), Balance: pickSum(r)}), leafText(api.Leaf{Pad: true, Salt: pickText(r, width)})} {
			for end := range len(text) + 1 {
				check(t, "early", width, text[:end])
				check(t, "late", width, text[end:])
				check(t, "less", width, text[:end]+text[min(end+1, len(text)):])
				check(t, "more", width, text[:end]+"\x01"+text[end:])
			}
			for at := range text {
				check(t, "another byte", width, text[:at]+string([]byte{text[at] ^ byte(1+r.IntN(255))})+text[at+1:])
			}
			check(t, "twice", width, text+text)
		}
	}
}

// P18.3, P18.4: noughts that are too few, behind one digest or none: what isn't there is no node of no digest, and no sum.
func TestNoughts(t *testing.T) {
	for width := 1; width <= 32; width++ {
		for many := range 120 {
			noughts := strings.Repeat("\x00", many)
			check(t, "noughts", width, "\x01"+noughts)
			check(t, "noughts", width, "\x01"+strings.Repeat("h", width)+noughts)
			check(t, "noughts", width, "\x00\x01a"+noughts)
			check(t, "noughts", width, "\x02"+noughts)
		}
	}
}

// P18.3, P18.4: all bytes that a text may begin with.
func TestKinds(t *testing.T) {
	r := picker(9)
	node := nodeText(api.Node{Hash: pickText(r, 7), Sum: num(0, 5)}, api.Node{Hash: pickText(r, 7), Sum: num(1, 6)})
	leaf := leafText(api.Leaf{Id: "abc", Salt: "salt", Balance: num(3, 4)})
	pad := leafText(api.Leaf{Pad: true, Salt: "salt"})
	for kind := range 256 {
		for _, text := range []string{node, leaf, pad} {
			text = string([]byte{byte(kind)}) + text[1:]
			check(t, "kind", 7, text)
			_, _, is := trace.Sides(7, trace.Step{Text: text})
			if want := kind == 1 && text[1:] == node[1:]; is != want {
				t.Errorf("%q: a node of two: %v, not %v", text, is, want)
			}
		}
	}
}

// P18.3: a leaf's text that is as long as a node's of the width is a leaf's still, and no node's.
func TestAsLong(t *testing.T) {
	for width := 1; width <= 32; width++ {
		for id := 1; id <= 24; id++ {
			salt := 33 + 2*width - 19 - id
			if salt < 0 || salt > 32 {
				continue
			}
			l := api.Leaf{Id: strings.Repeat("a", id), Salt: strings.Repeat("\x01", salt), Balance: num(top, top)}
			text := leafText(l)
			if len(text) != 33+2*width {
				t.Fatalf("%d bytes", len(text))
			}
			check(t, "as long", width, text)
			if n, e := trace.Node(width, trace.Step{Text: text}); e != api.OK || n.Sum != l.Balance {
				t.Errorf("width %d, %q: %#v %d", width, text, n, e)
			}
		}
	}
}

// P18.4: sums without room together are told all the same, as are digests of any bytes.
func TestSides(t *testing.T) {
	r := picker(10)
	for width := 1; width <= 32; width++ {
		for _, one := range []api.U128{{}, num(0, 1), num(1, 0), num(0, top), num(top, 0), num(top, top), num(1<<63, 0)} {
			for _, other := range []api.U128{{}, num(0, 1), num(top, top), num(1<<63, 0)} {
				want := [2]api.Node{{Hash: pickText(r, width), Sum: one}, {Hash: strings.Repeat("\x00", width), Sum: other}}
				for range 2 {
					want[0], want[1] = want[1], want[0]
					text := nodeText(want[0], want[1])
					check(t, "sides", width, text)
					if left, right, is := trace.Sides(width, trace.Step{Text: text}); !is || left != want[0] || right != want[1] {
						t.Errorf("width %d: %#v %#v %v, not %#v", width, left, right, is, want)
					}
				}
			}
		}
	}
}

// checkUp checks that each step has the next one above it, and the highest one is the root's.
func checkUp(t *testing.T, r api.Root, steps []trace.Step) {
	t.Helper()
	width := len(r.Hash)
	for i, s := range steps {
		n, e := trace.Node(width, s)
		if e != api.OK || s.Level != i {
			t.Fatalf("height %d: %#v: error %d", r.Height, s, e)
		}
		if i == r.Height {
			if s.Place != 0 || n != (api.Node{Hash: r.Hash, Sum: r.Total}) {
				t.Errorf("height %d: the highest one is %#v, not the root's", r.Height, s)
			}
			continue
		}
		next := steps[i+1]
		left, right, is := trace.Sides(width, next)
		at := left
		if s.Place%2 == 1 {
			at = right
		}
		if !is || at != n || next.Level != s.Level+1 || next.Place != s.Place/2 {
			t.Errorf("height %d: %#v, and then %#v", r.Height, s, next)
		}
	}
}

// P18.5, P18.6: whatever holds, at heights up to 63, honest or not.
func TestUp(t *testing.T) {
	r := picker(11)
	for height := range 64 {
		for range 5 {
			width := 1 + r.IntN(32)
			e := pickEntry(r, width, height)
			root := mustUp(t, width, e)
			steps := trace.Of(root, e)
			if len(steps) != height+1 || steps[0].Place != e.Proof.Position {
				t.Fatalf("height %d: %#v", height, steps)
			}
			checkUp(t, root, steps)
			root.Total.Lo ^= 1
			checkNone(t, "another root", root, e)
		}
	}
}

// P18.5, P18.6: sums up to the greatest, wherever it comes to be; with one more there is no trace.
func TestUpOfGreatest(t *testing.T) {
	for height := 1; height <= 63; height++ {
		e := api.Entry{Leaf: api.Leaf{Id: "rich", Balance: num(0, 1)}, Proof: api.Proof{Position: 0x5555555555555555 & (1<<height - 1)}}
		e.Proof.Sides = slices.Repeat([]api.Node{{Hash: "ab"}}, height)
		for at := range height {
			e.Proof.Sides[at].Sum = num(top, top-1)
			root := mustUp(t, 2, e)
			steps := trace.Of(root, e)
			if len(steps) != height+1 {
				t.Fatalf("height %d: %#v", height, steps)
			}
			checkUp(t, root, steps)
			e.Proof.Sides[at].Sum = num(top, top)
			checkNone(t, "no room", root, e)
			e.Proof.Sides[at].Sum = num(0, 0)
		}
	}
}

// P18.5: all entries of one tree have the same step at one place.
func TestMeet(t *testing.T) {
	r := picker(12)
	for height := range 7 {
		x := pickTree(t, r, 4, height)
		type place struct {
			level int
			place uint64
		}
		texts := map[place]string{}
		for _, s := range trace.All(x.Root(), proof.All(x)) {
			at := place{s.Level, s.Place}
			if was, is := texts[at]; is && was != s.Text {
				t.Errorf("height %d, at %v: %q and %q", height, at, was, s.Text)
			}
			texts[at] = s.Text
			want, _ := x.Node(s.Level, s.Place)
			if n, e := trace.Node(4, s); n != want || e != api.OK {
				t.Errorf("height %d, at %v: %#v %d, not %#v", height, at, n, e, want)
			}
		}
		if len(texts) != 2<<height-1 {
			t.Errorf("height %d: %d places", height, len(texts))
		}
	}
}

// P18.7: what is read of any text is that text again, and no leaf's text is a node's.
func TestReadBack(t *testing.T) {
	r := picker(13)
	read := 0
	for range 20000 {
		width := 1 + r.IntN(32)
		text := pickText(r, 33+2*width-r.IntN(2)*r.IntN(3))
		if r.IntN(3) > 0 {
			text = "\x01" + text[1:]
		}
		check(t, "any", width, text)
		left, right, is := trace.Sides(width, trace.Step{Text: text})
		if is {
			read++
			if nodeText(left, right) != text || tag.NodeText(left, right) != text || len(left.Hash) != width || len(right.Hash) != width {
				t.Errorf("width %d: %q is read as %#v and %#v", width, text, left, right)
			}
		}
		leaf := tag.LeafText(pickLeaf(r))
		if _, _, is := trace.Sides(width, trace.Step{Text: leaf}); is {
			t.Errorf("width %d: the leaf's text %q is a node's", width, leaf)
		}
	}
	if read == 0 {
		t.Error("none was read")
	}
}

// P18.7: a text is a node's of one width at most.
func TestOneWidth(t *testing.T) {
	r := picker(14)
	for width := 1; width <= 32; width++ {
		n := pickNodes(r, 2, width)
		for _, other := range someWidths() {
			if _, _, is := trace.Sides(other, trace.Step{Text: nodeText(n[0], n[1])}); is != (other == width) {
				t.Errorf("of the width %d, by %d: %v", width, other, is)
			}
		}
	}
}

// A great text is told as what it is, as are great rows of sides.
func TestOdd(t *testing.T) {
	for _, begin := range []string{"\x00", "\x01", "\x02", "\x00\xff", "\x02\xff", "\x03"} {
		for _, width := range someWidths() {
			check(t, "odd", width, begin+strings.Repeat("\xff", 1<<12))
		}
	}
	for _, many := range []int{63, 64, 65, 3000} {
		for _, hash := range []string{"", "a", strings.Repeat("a", 33)} {
			e := api.Entry{Leaf: api.Leaf{Id: "a"}, Proof: api.Proof{Position: top, Sides: slices.Repeat([]api.Node{{Hash: hash}}, many)}}
			checkNone(t, "odd", api.Root{Hash: hash, Height: many}, e)
			checkNone(t, "odd", api.Root{Hash: "a", Height: 63}, e)
		}
	}
}

// pieces tells whether any byte of the one text is the other one's own.
func pieces(a, b string) bool {
	if a == "" || b == "" {
		return false
	}
	p, q := uintptr(unsafe.Pointer(unsafe.StringData(a))), uintptr(unsafe.Pointer(unsafe.StringData(b)))
	return p < q+uintptr(len(b)) && q < p+uintptr(len(a))
}

// What is told is the caller's own: it shares no memory with what was handed in, nor with another answer.
func TestMemoryOfItsOwn(t *testing.T) {
	r := picker(15)
	for height := range 5 {
		x := pickTree(t, r, 32, height)
		root, all := x.Root(), proof.All(x)
		steps, again := trace.All(root, all), trace.All(root, all)
		texts := trace.Texts(steps)
		for i, s := range steps {
			left, right, _ := trace.Sides(32, s)
			n, _ := trace.Node(32, s)
			for _, own := range []string{left.Hash, right.Hash, n.Hash, texts[i], again[i].Text} {
				if pieces(own, s.Text) || pieces(own, root.Hash) {
					t.Errorf("height %d, step %d: memory is shared", height, i)
				}
			}
			for _, side := range all[0].Proof.Sides {
				if pieces(s.Text, side.Hash) {
					t.Errorf("height %d, step %d: memory of a side is shared", height, i)
				}
			}
		}
		again[0].Text, texts[0] = "another", "another"
		if steps[0] != trace.All(root, all)[0] || trace.Texts(steps)[0] != steps[0].Text {
			t.Errorf("height %d: rows are shared", height)
		}
	}
}

// What is handed in stays as it is; asked again, the same is told.
func TestNothingIsChanged(t *testing.T) {
	r := picker(16)
	for height := range 6 {
		x := pickTree(t, r, 7, height)
		root, all := x.Root(), proof.All(x)
		for place := range all {
			was := twin(all[place])
			memory := append(slices.Clip(all[place].Proof.Sides), api.Node{Hash: "behind"})
			all[place].Proof.Sides = memory[:height]
			steps := trace.Of(root, all[place])
			wasSteps := slices.Clone(steps)
			for range 2 {
				texts := trace.Texts(steps)
				if !slices.Equal(trace.Of(root, all[place]), wasSteps) || !slices.Equal(trace.Texts(steps), texts) {
					t.Errorf("height %d, %d: another trace", height, place)
				}
			}
			if !proof.Same(all[place], was) || memory[height].Hash != "behind" || !slices.Equal(steps, wasSteps) {
				t.Errorf("height %d: %d is changed", height, place)
			}
		}
	}
}
