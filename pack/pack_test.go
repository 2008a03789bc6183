package pack_test

import (
	"fmt"
	"math"
	"math/big"
	"math/rand/v2"
	"reflect"
	"slices"
	"strconv"
	"strings"
	"testing"
	"unicode/utf8"
	"unsafe"

	"paymaster/api"
	"paymaster/octet"
	"paymaster/pack"
)

const top = math.MaxUint64

// letters are those of all sorts.
const letters = "RLEGD"

func num(hi, lo uint64) api.U128 { return api.U128{Hi: hi, Lo: lo} }

// picked tells a text of n bytes that chance (always the same one) picks.
func picked(n int) string {
	r := rand.New(rand.NewPCG(13, uint64(n)))
	b := make([]byte, n)
	for i := range b {
		b[i] = byte(r.Uint32())
	}
	return string(b)
}

// shown tells what it is for a message: its beginning, without bytes that nobody can read.
func shown(x any) string {
	s := fmt.Sprintf("%+v", x)
	return strconv.QuoteToASCII(s[:min(len(s), 300)])
}

// many tells a row of n that are all the same.
func many[T any](n int, x T) []T { return slices.Repeat([]T{x}, n) }

// write tells what the record's own call tells of it.
func write(r any) (string, api.Errno) {
	switch x := r.(type) {
	case api.Root:
		return pack.Root(x)
	case api.Leaf:
		return pack.Leaf(x)
	case api.Entry:
		return pack.Entry(x)
	case api.Range:
		return pack.Range(x)
	case api.Diff:
		return pack.Diff(x)
	}
	panic("no record")
}

// read tells what the call of the letter's sort tells of the bytes.
func read(letter byte, s string) (any, api.Errno) {
	switch letter {
	case 'R':
		return told(pack.ReadRoot(s))
	case 'L':
		return told(pack.ReadLeaf(s))
	case 'E':
		return told(pack.ReadEntry(s))
	case 'G':
		return told(pack.ReadRange(s))
	case 'D':
		return told(pack.ReadDiff(s))
	}
	panic("no sort")
}

func told[T any](r T, e api.Errno) (any, api.Errno) { return r, e }

// none tells the zero record of the letter's sort.
func none(letter byte) any {
	switch letter {
	case 'R':
		return api.Root{}
	case 'L':
		return api.Leaf{}
	case 'E':
		return api.Entry{}
	case 'G':
		return api.Range{}
	}
	return api.Diff{}
}

// letterOf tells the letter of the record's sort.
func letterOf(r any) byte {
	return letters[slices.IndexFunc([]byte(letters), func(l byte) bool { return reflect.TypeOf(none(l)) == reflect.TypeOf(r) })]
}

// tidy tells the record with no list that is empty, and not nil, in memory of its own.
func tidy(r any) any {
	switch x := r.(type) {
	case api.Entry:
		x.Proof.Sides = append([]api.Node(nil), x.Proof.Sides...)
		return x
	case api.Range:
		x.In, x.Out = append([]api.Node(nil), x.In...), append([]api.Node(nil), x.Out...)
		return x
	case api.Diff:
		x.Changes, x.Frontier = append([]api.Change(nil), x.Changes...), append([]api.Node(nil), x.Frontier...)
		return x
	}
	return r
}

// alike tells whether both records are the same, without asking the program.
func alike(a, b any) bool { return reflect.DeepEqual(tidy(a), tidy(b)) }

// laidNumber tells a number's bytes by the document's words.
func laidNumber(a api.U128) string {
	n := new(big.Int).Lsh(new(big.Int).SetUint64(a.Hi), 64)
	b := n.Or(n, new(big.Int).SetUint64(a.Lo)).Bytes()
	return string([]byte{byte(len(b))}) + string(b)
}

func laidCount(n int) string { return laidNumber(num(0, uint64(n))) }

func laidText(s string) string { return laidCount(len(s)) + s }

// laidRow tells how many there are, and the bytes of each.
func laidRow[T any](l []T) string {
	var s strings.Builder
	s.WriteString(laidCount(len(l)))
	for _, r := range l {
		s.WriteString(laid(r))
	}
	return s.String()
}

// laid tells the record's bytes, without its letter, by the document's words.
func laid(r any) string {
	switch x := r.(type) {
	case api.Node:
		return laidText(x.Hash) + laidNumber(x.Sum)
	case api.Root:
		return laidText(x.Hash) + laidNumber(x.Total) + laidNumber(num(0, uint64(int64(x.Height))))
	case api.Leaf:
		flag := "\x00"
		if x.Pad {
			flag = "\x01"
		}
		return flag + laidText(x.Id) + laidText(x.Salt) + laidNumber(x.Balance)
	case api.Proof:
		return laidNumber(num(0, x.Position)) + laidRow(x.Sides)
	case api.Entry:
		return laid(x.Leaf) + laid(x.Proof)
	case api.Range:
		return laidNumber(num(0, x.From)) + laidNumber(num(0, x.To)) + laidRow(x.In) + laidRow(x.Out)
	case api.Change:
		return laidNumber(num(0, x.Position)) + laid(x.Old) + laid(x.New)
	case api.Diff:
		return laidRow(x.Changes) + laidRow(x.Frontier)
	}
	panic("no record")
}

// whole tells the record's whole bytes by the document's words.
func whole(r any) string { return string([]byte{letterOf(r)}) + laid(r) }

// isId tells whether the text is an Id, by the document's words.
func isId(s string) bool {
	const signs = "abcdefghijklmnopqrstuvwxyzABCDEFGHIJKLMNOPQRSTUVWXYZ0123456789._-"
	runes := []rune(s)
	if !utf8.ValidString(s) || len(runes) == 0 || len(runes) > 24 {
		return false
	}
	return !slices.ContainsFunc(runes, func(r rune) bool { return r <= 160 && !strings.ContainsRune(signs, r) })
}

// wrongLeaf tells whether some leaf may not be, by the document's words.
func wrongLeaf(l ...api.Leaf) bool {
	return slices.ContainsFunc(l, func(x api.Leaf) bool {
		if x.Pad {
			return x.Id != "" || x.Balance != num(0, 0) || len(x.Salt) > 32
		}
		return !isId(x.Id) || len(x.Salt) > 32
	})
}

// longNodes tells whether there are too many, or one has too long a Hash.
func longNodes(l []api.Node) bool {
	return len(l) > 2048 || slices.ContainsFunc(l, func(n api.Node) bool { return len(n.Hash) > 32 })
}

// fault tells what is wrong with the record, by the document's words.
func fault(r any) api.Errno {
	var leaf, long bool
	switch x := r.(type) {
	case api.Root:
		long = len(x.Hash) > 32 || x.Height < 0 || x.Height > 63
	case api.Leaf:
		leaf = wrongLeaf(x)
	case api.Entry:
		leaf, long = wrongLeaf(x.Leaf), longNodes(x.Proof.Sides)
	case api.Range:
		long = longNodes(x.In) || longNodes(x.Out)
	case api.Diff:
		leaf = slices.ContainsFunc(x.Changes, func(c api.Change) bool { return wrongLeaf(c.Old, c.New) })
		long = len(x.Changes) > 2048 || longNodes(x.Frontier)
	}
	switch {
	case leaf:
		return api.ErrLeaf
	case long:
		return api.ErrLong
	}
	return api.OK
}

// eye goes over bytes as the document has them; it is lost, where they aren't so.
type eye struct {
	s    string
	lost bool
}

// piece tells the next n bytes.
func (e *eye) piece(n uint64) string {
	if e.lost || n > uint64(len(e.s)) {
		e.lost = true
		return ""
	}
	p := e.s[:n]
	e.s = e.s[n:]
	return p
}

func (e *eye) byte() byte {
	p := e.piece(1)
	if p == "" {
		return 0
	}
	return p[0]
}

func (e *eye) wide(most byte) api.U128 {
	n := e.byte()
	if n > most {
		e.lost = true
	}
	p := e.piece(uint64(n))
	if p != "" && p[0] == 0 {
		e.lost = true
	}
	b := new(big.Int).SetBytes([]byte(p))
	return num(new(big.Int).Rsh(b, 64).Uint64(), new(big.Int).And(b, new(big.Int).SetUint64(top)).Uint64())
}

func (e *eye) num() uint64 { return e.wide(8).Lo }

func (e *eye) text() string { return e.piece(e.num()) }

func (e *eye) leaf() api.Leaf {
	flag := e.byte()
	if flag > 1 {
		e.lost = true
	}
	id, salt := e.text(), e.text()
	return api.Leaf{Pad: flag == 1, Id: id, Salt: salt, Balance: e.wide(16)}
}

// row goes over how many there are, and each by the function.
func row[T any](e *eye, one func() T) []T {
	n := e.num()
	if n > 2048 {
		e.lost = true
	}
	var l []T
	for i := uint64(0); i < n && !e.lost; i++ {
		l = append(l, one())
	}
	return l
}

func (e *eye) nodes() []api.Node {
	return row(e, func() api.Node {
		hash := e.text()
		return api.Node{Hash: hash, Sum: e.wide(16)}
	})
}

func (e *eye) change() api.Change {
	position := e.num()
	old := e.leaf()
	return api.Change{Position: position, Old: old, New: e.leaf()}
}

func (e *eye) root() api.Root {
	hash, total := e.text(), e.wide(16)
	height := e.num()
	if height > 63 {
		e.lost = true
		return api.Root{}
	}
	return api.Root{Hash: hash, Total: total, Height: int(height)}
}

func (e *eye) record(letter byte) any {
	switch letter {
	case 'R':
		return e.root()
	case 'L':
		return e.leaf()
	case 'E':
		leaf, position := e.leaf(), e.num()
		return api.Entry{Leaf: leaf, Proof: api.Proof{Position: position, Sides: e.nodes()}}
	case 'G':
		from, to := e.num(), e.num()
		in := e.nodes()
		return api.Range{From: from, To: to, In: in, Out: e.nodes()}
	}
	list := row(e, e.change)
	return api.Diff{Changes: list, Frontier: e.nodes()}
}

// parsed tells the record of the letter's sort whose whole bytes these are, by the document's words, and whether there is one.
func parsed(letter byte, s string) (any, bool) {
	e := &eye{s: s}
	if e.byte() != letter {
		return none(letter), false
	}
	r := e.record(letter)
	if e.lost || e.s != "" || fault(r) != api.OK {
		return none(letter), false
	}
	return r, true
}

// reads asks whether the bytes are read, by each sort, as the document has it, and there and back.
func reads(t *testing.T, s string) {
	t.Helper()
	for _, letter := range []byte(letters) {
		want, is := parsed(letter, s)
		got, e := read(letter, s)
		switch {
		case !is && (!reflect.DeepEqual(got, none(letter)) || e != api.ErrCode):
			t.Fatalf("%.300q, read as %c: %s, %v; it is none's", s, letter, shown(got), e)
		case is && (!alike(got, want) || e != api.OK):
			t.Fatalf("%.300q, read as %c: %s, %v, not %s", s, letter, shown(got), e, shown(want))
		case is:
			if back, e := write(got); back != s || e != api.OK {
				t.Fatalf("%.300q, read as %c, is written as %.300q, %v", s, letter, back, e)
			}
		}
	}
}

// writes asks whether what is told of the record is what the document has, and whether it is read from its bytes, and by no other sort.
func writes(t *testing.T, r any) {
	t.Helper()
	before := tidy(r)
	s, e := write(r)
	if !alike(r, before) {
		t.Fatalf("of %s there is %s left", shown(before), shown(r))
	}
	if want := fault(r); want != api.OK {
		if s != "" || e != want {
			t.Fatalf("%s: %.100q, %v, not %v", shown(r), s, e, want)
		}
		// What would be its bytes, without what is wrong, is none's.
		reads(t, whole(r))
		return
	}
	if s != whole(r) || e != api.OK {
		t.Fatalf("%s: %.300q, %v, not %.300q", shown(r), s, e, whole(r))
	}
	got, e := read(letterOf(r), s)
	if !alike(got, r) || e != api.OK {
		t.Fatalf("%s is read as %s, %v", shown(r), shown(got), e)
	}
	reads(t, s)
}

// wides are numbers at both ends of each count of bytes.
func wides() []api.U128 {
	l := []api.U128{{}, num(0, 5), num(0, 300), num(1, 0), num(1, top), num(top, 0), num(top, top), num(0x0102030405060708, 0x090a0b0c0d0e0f10)}
	for bit := 8; bit < 64; bit += 8 {
		l = append(l, num(0, 1<<bit-1), num(0, 1<<bit), num(1<<bit-1, top), num(1<<bit, 0))
	}
	return append(l, num(0, top))
}

// nums are those of them that have room in 64 bits.
func nums() []uint64 {
	var l []uint64
	for _, a := range wides() {
		if a.Hi == 0 {
			l = append(l, a.Lo)
		}
	}
	return l
}

// hashes have each length about those that may be, and look like other things.
func hashes() []string {
	l := []string{"", "\x00", "ab", "\x01\x00", "R", strings.Repeat("\x00", 32), strings.Repeat("\xff", 32)}
	for n := range 32 {
		l = append(l, picked(n+1))
	}
	return l
}

// longHashes have more bytes than a Hash may.
func longHashes() []string {
	return []string{picked(33), picked(34), strings.Repeat("\x00", 33), picked(64), picked(255), picked(256), picked(256 + 32), picked(1<<16 + 1)}
}

// heights are all that may be.
func heights() []int {
	var l []int
	for h := range 64 {
		l = append(l, h)
	}
	return l
}

// otherHeights may not be.
func otherHeights() []int {
	return []int{-1, -2, -63, -64, -256, math.MinInt32, math.MinInt, math.MinInt + 1, 64, 65, 127, 255, 256, 257, 1 << 16, 1<<16 + 1, 1 << 32, 1<<32 + 1, math.MaxInt32, math.MaxInt - 1, math.MaxInt}
}

// wideId has the most bytes that an Id may.
var wideId = strings.Repeat("\U00010348", 24)

// leaves are such as may be.
func leaves() []api.Leaf {
	l := []api.Leaf{{Pad: true}, {Pad: true, Salt: "\x00"}, {Pad: true, Salt: picked(31)}, {Pad: true, Salt: picked(32)}}
	for _, id := range []string{"a", "Z", "0", ".", "_", "-", "alice", "ä", "\u00a1", "日本語", "\ufffd", "\U0010ffff", strings.Repeat("a", 24), strings.Repeat("ä", 24), wideId} {
		l = append(l, api.Leaf{Id: id}, api.Leaf{Id: id, Salt: picked(len(id) % 33), Balance: num(0, uint64(len(id)))}, api.Leaf{Id: id, Salt: picked(32), Balance: num(top, top)})
	}
	for _, a := range wides() {
		l = append(l, api.Leaf{Id: "a", Salt: "s", Balance: a})
	}
	for n := range 33 {
		l = append(l, api.Leaf{Id: "a", Salt: picked(n)}, api.Leaf{Pad: true, Salt: picked(n)})
	}
	return l
}

// wrong are leaves that may not be.
func wrong() []api.Leaf {
	l := []api.Leaf{
		{}, {Salt: "s"}, {Balance: num(0, 5)},
		{Pad: true, Id: "a"}, {Pad: true, Id: "\xff"}, {Pad: true, Balance: num(0, 1)}, {Pad: true, Balance: num(1, 0)}, {Pad: true, Id: "a", Salt: "s", Balance: num(0, 5)},
	}
	for _, n := range []int{33, 34, 64, 255, 256, 257, 256 + 32, 1 << 16} {
		l = append(l, api.Leaf{Pad: true, Salt: picked(n)}, api.Leaf{Id: "a", Salt: picked(n)})
	}
	for _, id := range []string{"a b", " ", "\x00", "a\n", "#", "a/b", "@", "`", "{", "[", "^", ":", "/", "\u0080", "\u00a0", "\xff", "a\xc3", "\xed\xa0\x80", strings.Repeat("a", 25), strings.Repeat("ä", 25), strings.Repeat("\U00010348", 25), wideId + "a", picked(300), strings.Repeat("a", 256+24)} {
		l = append(l, api.Leaf{Id: id}, api.Leaf{Id: id, Salt: "s", Balance: num(0, 5)})
	}
	return l
}

// nodes are such as may be told: as many as there are hashes, numbers.
func nodes() []api.Node {
	var l []api.Node
	w := wides()
	for i, h := range hashes() {
		l = append(l, api.Node{Hash: h, Sum: w[i%len(w)]}, api.Node{Hash: "h", Sum: w[(i*7)%len(w)]})
	}
	return l
}

// roots, entries, ranges, diffs are such as may be told.
func roots() []any {
	var l []any
	for _, h := range heights() {
		l = append(l, api.Root{Hash: "ab", Total: num(0, 5), Height: h}, api.Root{Height: h})
	}
	for i, h := range hashes() {
		l = append(l, api.Root{Hash: h, Total: num(0, uint64(i)), Height: i % 64}, api.Root{Hash: h})
	}
	for i, a := range wides() {
		l = append(l, api.Root{Hash: "x", Total: a, Height: i % 64})
	}
	return l
}

func entries() []any {
	var l []any
	n := nodes()
	for i, leaf := range leaves() {
		l = append(l, api.Entry{Leaf: leaf}, api.Entry{Leaf: leaf, Proof: api.Proof{Position: uint64(i), Sides: n[:i%12]}})
	}
	for i, p := range nums() {
		l = append(l, api.Entry{Leaf: api.Leaf{Pad: true}, Proof: api.Proof{Position: p, Sides: n[i : i+2]}})
	}
	return append(l, api.Entry{Leaf: api.Leaf{Id: "a"}, Proof: api.Proof{Sides: n}})
}

func ranges() []any {
	l := []any{api.Range{}}
	n := nodes()
	for i, p := range nums() {
		l = append(l, api.Range{From: p}, api.Range{To: p}, api.Range{From: p, To: p / 2, In: n[:i%5], Out: n[i%5 : i%7+5]})
	}
	return append(l, api.Range{In: n}, api.Range{Out: n}, api.Range{From: 1, To: 5, In: n, Out: n[5:]}, api.Range{In: many(255, n[0]), Out: many(256, n[1])})
}

func diffs() []any {
	l := []any{api.Diff{}}
	n, e := nodes(), leaves()
	var all []api.Change
	for i, leaf := range e {
		c := api.Change{Position: nums()[i%len(nums())], Old: leaf, New: e[(i*5+1)%len(e)]}
		all = append(all, c)
		l = append(l, api.Diff{Changes: []api.Change{c}}, api.Diff{Changes: all[i/2:], Frontier: n[:i%9]})
	}
	return append(l, api.Diff{Changes: all, Frontier: n}, api.Diff{Frontier: n}, api.Diff{Frontier: many(256, n[1])})
}

// records are all of these.
func records() []any {
	var l []any
	for _, x := range leaves() {
		l = append(l, x)
	}
	return slices.Concat(l, roots(), entries(), ranges(), diffs())
}

// P13.2, P13.3: the examples.
func TestExamples(t *testing.T) {
	if s, e := pack.Root(api.Root{Hash: "ab", Total: num(0, 5), Height: 1}); s != "R\x01\x02ab\x01\x05\x01\x01" || e != api.OK {
		t.Errorf("%q, %v", s, e)
	}
	if s, e := pack.Leaf(api.Leaf{Pad: true}); s != "L\x01\x00\x00\x00" || e != api.OK {
		t.Errorf("%q, %v", s, e)
	}
	if r, e := pack.ReadRoot("R\x01\x02ab\x01\x05\x01\x01"); r != (api.Root{Hash: "ab", Total: num(0, 5), Height: 1}) || e != api.OK {
		t.Errorf("%s, %v", shown(r), e)
	}
	if l, e := pack.ReadLeaf("L\x01\x00\x00\x00"); l != (api.Leaf{Pad: true}) || e != api.OK {
		t.Errorf("%s, %v", shown(l), e)
	}
}

// P13.2, P13.3, P13.5: each sort's bytes, written out.
func TestBytes(t *testing.T) {
	a, b := api.Leaf{Id: "a", Salt: "st", Balance: num(0, 300)}, api.Leaf{Pad: true, Salt: "p"}
	x, y, z := api.Node{Hash: "h", Sum: num(1, 0)}, api.Node{}, api.Node{Hash: "ij", Sum: num(0, 7)}
	const (
		leafA = "\x00" + "\x01\x01a" + "\x01\x02st" + "\x02\x01\x2c"
		leafB = "\x01" + "\x00" + "\x01\x01p" + "\x00"
		nodeX = "\x01\x01h" + "\x09\x01\x00\x00\x00\x00\x00\x00\x00\x00"
		nodeY = "\x00" + "\x00"
		nodeZ = "\x01\x02ij" + "\x01\x07"
	)
	for s, r := range map[string]any{
		"R\x00\x00\x00":               api.Root{},
		"R\x01\x01x\x00\x01\x3f":      api.Root{Hash: "x", Height: 63},
		"L" + leafA:                   a,
		"L" + leafB:                   b,
		"E" + leafB + "\x00" + "\x00": api.Entry{Leaf: b},
		"E" + leafA + "\x02\x01\x00" + "\x01\x03" + nodeX + nodeY + nodeZ: api.Entry{Leaf: a, Proof: api.Proof{Position: 256, Sides: []api.Node{x, y, z}}},
		"G\x00\x00\x00\x00": api.Range{},
		"G" + "\x01\x09" + "\x01\x04" + "\x01\x02" + nodeX + nodeY + "\x01\x01" + nodeZ: api.Range{From: 9, To: 4, In: []api.Node{x, y}, Out: []api.Node{z}},
		"G" + "\x00" + "\x01\x04" + "\x00" + "\x01\x01" + nodeZ:                         api.Range{To: 4, Out: []api.Node{z}},
		"D\x00\x00":                  api.Diff{},
		"D\x00" + "\x01\x01" + nodeX: api.Diff{Frontier: []api.Node{x}},
		"D" + "\x01\x02" + "\x01\x03" + leafA + leafB + "\x00" + leafB + leafA + "\x01\x01" + nodeZ:   api.Diff{Changes: []api.Change{{Position: 3, Old: a, New: b}, {Old: b, New: a}}, Frontier: []api.Node{z}},
		"D" + "\x01\x01" + "\x08\xff\xff\xff\xff\xff\xff\xff\xff" + leafB + leafB + "\x00":            api.Diff{Changes: []api.Change{{Position: top, Old: b, New: b}}},
		"G" + "\x08\xff\xff\xff\xff\xff\xff\xff\xff" + "\x08\x80\x00\x00\x00\x00\x00\x00\x00\x00\x00": api.Range{From: top, To: 1 << 63},
	} {
		if got, e := write(r); got != s || e != api.OK {
			t.Errorf("%s: %q, %v, not %q", shown(r), got, e, s)
		}
		if got, e := read(s[0], s); !alike(got, r) || e != api.OK {
			t.Errorf("%q: %s, %v, not %s", s, shown(got), e, shown(r))
		}
		writes(t, r)
	}
}

// P13.2, P13.3, P13.5, P13.6
func TestThereAndBack(t *testing.T) {
	for _, r := range records() {
		if fault(r) != api.OK {
			t.Fatalf("%s may not be told", shown(r))
		}
		writes(t, r)
	}
}

// P13.5: unlike records have unlike bytes.
func TestUnlike(t *testing.T) {
	seen := map[string]any{}
	for _, r := range records() {
		s, _ := write(r)
		if other, was := seen[s]; was && !alike(other, r) {
			t.Errorf("%s and %s: the same bytes", shown(other), shown(r))
		}
		seen[s] = r
	}
}

// P13.1: one behind the other, whatever they are.
func TestPutRoot(t *testing.T) {
	var o octet.Out
	var want string
	put := func(r api.Root) {
		pack.PutRoot(&o, r)
		want += laid(r)
		if s, e := o.Done(); s != want || e != api.OK {
			t.Fatalf("behind %s: %d bytes, %v, not %d", shown(r), len(s), e, len(want))
		}
	}
	for _, r := range roots() {
		put(r.(api.Root))
	}
	for _, h := range otherHeights() {
		put(api.Root{Hash: "ab", Total: num(0, 5), Height: h})
	}
	for _, h := range longHashes() {
		put(api.Root{Hash: h, Total: num(top, top), Height: 7})
	}
	for h, s := range map[int]string{
		-1:                "\x00\x00\x08\xff\xff\xff\xff\xff\xff\xff\xff",
		-256:              "\x00\x00\x08\xff\xff\xff\xff\xff\xff\xff\x00",
		math.MinInt64:     "\x00\x00\x08\x80\x00\x00\x00\x00\x00\x00\x00",
		math.MaxInt64:     "\x00\x00\x08\x7f\xff\xff\xff\xff\xff\xff\xff",
		64:                "\x00\x00\x01\x40",
		math.MaxInt32 + 1: "\x00\x00\x04\x80\x00\x00\x00",
		math.MinInt32:     "\x00\x00\x08\xff\xff\xff\xff\x80\x00\x00\x00",
		8:                 "\x00\x00\x01\x08",
	} {
		var one octet.Out
		pack.PutRoot(&one, api.Root{Height: h})
		if got, e := one.Done(); got != s || e != api.OK {
			t.Errorf("of the height %d: %q, %v, not %q", h, got, e, s)
		}
	}
}

// P13.1: what has no room spoils what is written; nobody's stays so.
func TestPutRootWithoutRoom(t *testing.T) {
	var o octet.Out
	pack.PutRoot(&o, api.Root{Hash: picked(octet.MaxOut)})
	if s, e := o.Done(); s != "" || e != api.ErrLong {
		t.Errorf("%d bytes, %v", len(s), e)
	}
	pack.PutRoot(&o, api.Root{})
	if s, e := o.Done(); s != "" || e != api.ErrLong {
		t.Errorf("%d bytes, %v", len(s), e)
	}
	// 4 bytes tell how long the Hash is, and 2 the others.
	var full octet.Out
	pack.PutRoot(&full, api.Root{Hash: picked(octet.MaxOut - 6)})
	if s, e := full.Done(); len(s) != octet.MaxOut || e != api.OK {
		t.Errorf("%d bytes, %v", len(s), e)
	}
	pack.PutRoot(nil, api.Root{Hash: "ab", Height: 1})
}

// P13.1
func TestGetRoot(t *testing.T) {
	var s string
	for _, r := range roots() {
		s += laid(r)
	}
	i := octet.Open(s + "rest")
	for _, r := range roots() {
		if got := pack.GetRoot(i); got != r || i.Spoilt() {
			t.Fatalf("%s, not %s; spoilt: %v", shown(got), shown(r), i.Spoilt())
		}
	}
	if i.Rest() != 4 || i.Byte() != 'r' {
		t.Errorf("%d bytes are left", i.Rest())
	}
}

// spoils asks whether no root is read from the bytes, and all is spoilt then.
func spoils(t *testing.T, s string) {
	t.Helper()
	i := octet.Open(s)
	for range 2 {
		if got := pack.GetRoot(i); got != (api.Root{}) || !i.Spoilt() || i.Close() != api.ErrCode {
			t.Fatalf("GetRoot of %.100q: %s, spoilt: %v", s, shown(got), i.Spoilt())
		}
	}
}

// P13.1
func TestGetRootOfNone(t *testing.T) {
	behind := laid(api.Root{Hash: "x", Height: 1})
	for _, h := range otherHeights() {
		spoils(t, laid(api.Root{Hash: "ab", Total: num(0, 5), Height: h}))
		spoils(t, laid(api.Root{Height: h})+behind)
	}
	for _, h := range longHashes() {
		spoils(t, laid(api.Root{Hash: h, Total: num(0, 5), Height: 1})+behind)
	}
	for _, n := range nums() {
		if n > 63 {
			spoils(t, "\x01\x02ab\x01\x05"+laidNumber(num(0, n)))
		}
	}
	spoils(t, "\x01\x02ab\x01\x05\x09\x01\x00\x00\x00\x00\x00\x00\x00\x01")
	spoils(t, "\x01\x02ab\x01\x05\x02\x00\x01")
	spoils(t, "\x01\x02ab\x02\x00\x05\x01\x01")
	spoils(t, "\x02\x00\x02ab\x01\x05\x01\x01")
	spoils(t, "\x01\x02ab\x11\x01"+strings.Repeat("\x00", 16)+"\x01\x01")
	for _, r := range roots() {
		s := laid(r)
		for at := range len(s) {
			spoils(t, s[:at])
		}
	}
	for _, i := range []*octet.In{nil, {}} {
		if r := pack.GetRoot(i); r != (api.Root{}) || !i.Spoilt() {
			t.Errorf("%s, spoilt: %v", shown(r), i.Spoilt())
		}
	}
	i := octet.Open(behind)
	i.Spoil()
	if r := pack.GetRoot(i); r != (api.Root{}) {
		t.Errorf("of a spoilt one: %s", shown(r))
	}
}

// P13.2: what a root may not have.
func TestWrongRoots(t *testing.T) {
	for _, h := range otherHeights() {
		writes(t, api.Root{Hash: "ab", Total: num(0, 5), Height: h})
		writes(t, api.Root{Height: h})
	}
	for _, h := range longHashes() {
		writes(t, api.Root{Hash: h})
		writes(t, api.Root{Hash: h, Height: 64})
	}
}

// P13.2: a leaf that may not be, wherever it is.
func TestWrongLeaves(t *testing.T) {
	may := api.Leaf{Id: "a", Salt: "s", Balance: num(0, 5)}
	fine := many(3, api.Change{Position: 1, Old: may, New: api.Leaf{Pad: true}})
	for _, l := range wrong() {
		if !wrongLeaf(l) {
			t.Fatalf("%s may be", shown(l))
		}
		writes(t, l)
		writes(t, api.Entry{Leaf: l})
		writes(t, api.Entry{Leaf: l, Proof: api.Proof{Position: 1, Sides: nodes()[:3]}})
		for _, c := range []api.Change{{Old: l, New: may}, {Old: may, New: l}, {Old: l, New: l}} {
			for at := range 4 {
				writes(t, api.Diff{Changes: slices.Insert(slices.Clone(fine), at, c), Frontier: nodes()[:2]})
			}
		}
	}
}

// P13.2: a Hash that is too long, wherever it is; and a leaf's error ahead of that.
func TestLongHashes(t *testing.T) {
	may, may2 := api.Leaf{Id: "a"}, api.Leaf{Pad: true}
	for _, h := range longHashes() {
		for at := range 4 {
			l := slices.Insert(many(3, api.Node{Hash: "h", Sum: num(0, 1)}), at, api.Node{Hash: h})
			writes(t, api.Entry{Leaf: may, Proof: api.Proof{Sides: l}})
			writes(t, api.Entry{Proof: api.Proof{Sides: l}})
			writes(t, api.Range{In: l})
			writes(t, api.Range{Out: l})
			writes(t, api.Range{To: 1, In: l[:1], Out: l})
			writes(t, api.Diff{Frontier: l})
			writes(t, api.Diff{Changes: []api.Change{{Old: may, New: may2}}, Frontier: l})
			writes(t, api.Diff{Changes: []api.Change{{Old: may, New: api.Leaf{}}}, Frontier: l})
		}
	}
}

// P13.2, P13.3, P13.5: as many as there may be, and more.
func TestMany(t *testing.T) {
	leaf, n := api.Leaf{Id: "a"}, api.Node{Hash: "h", Sum: num(0, 1)}
	c := api.Change{Position: 1, Old: leaf, New: api.Leaf{Pad: true}}
	for _, k := range []int{1, 255, 256, 2047, 2048, 2049, 2050, 4096, 65536} {
		want := api.OK
		if k > 2048 {
			want = api.ErrLong
		}
		for _, r := range []any{
			api.Entry{Leaf: leaf, Proof: api.Proof{Position: 1, Sides: many(k, n)}},
			api.Range{From: 1, To: 2, In: many(k, n)},
			api.Range{From: 1, To: 2, Out: many(k, n)},
			api.Range{In: many(2048, n), Out: many(k, n)},
			api.Range{In: many(k, n), Out: many(2048, n)},
			api.Diff{Changes: many(k, c)},
			api.Diff{Frontier: many(k, n)},
			api.Diff{Changes: many(k, c), Frontier: many(2048, n)},
			api.Diff{Changes: many(2048, c), Frontier: many(k, n)},
		} {
			if s, e := write(r); e != want || want != api.OK && s != "" {
				t.Errorf("%c, of %d: %d bytes, %v, not %v", letterOf(r), k, len(s), e, want)
			}
			writes(t, r)
		}
	}
}

// P13.2: a leaf's error is told ahead, wherever the leaf is: behind all that is too many, too.
func TestLeafAhead(t *testing.T) {
	leaf, long := api.Leaf{Id: "a"}, api.Node{Hash: picked(33)}
	good, bad := api.Change{Old: leaf, New: leaf}, api.Change{Old: leaf, New: api.Leaf{Id: "a b"}}
	for _, r := range []any{
		api.Entry{Leaf: bad.New, Proof: api.Proof{Sides: []api.Node{long}}},
		api.Entry{Leaf: bad.New, Proof: api.Proof{Sides: many(2049, api.Node{})}},
		api.Diff{Changes: []api.Change{bad}, Frontier: []api.Node{long}},
		api.Diff{Changes: []api.Change{bad}, Frontier: many(2049, api.Node{})},
		api.Diff{Changes: append(many(2048, good), bad)},
		api.Diff{Changes: append(many(5000, good), bad)},
		api.Diff{Changes: append([]api.Change{bad}, many(2048, good)...)},
		api.Diff{Changes: append(many(2049, good), api.Change{Old: bad.New, New: leaf}), Frontier: many(2049, long)},
	} {
		if s, e := write(r); s != "" || e != api.ErrLeaf {
			t.Errorf("%s: %d bytes, %v", shown(r), len(s), e)
		}
	}
}

// P13.2, P13.5: the greatest records have room.
func TestGreatest(t *testing.T) {
	leaf := api.Leaf{Id: wideId, Salt: picked(32), Balance: num(top, top)}
	n := many(2048, api.Node{Hash: picked(32), Sum: num(top, top)})
	for _, r := range []any{
		api.Root{Hash: picked(32), Total: num(top, top), Height: 63},
		leaf,
		api.Entry{Leaf: leaf, Proof: api.Proof{Position: top, Sides: n}},
		api.Range{From: top, To: top, In: n, Out: n},
		api.Diff{Changes: many(2048, api.Change{Position: top, Old: leaf, New: leaf}), Frontier: n},
	} {
		if s, e := write(r); len(s) != len(whole(r)) || e != api.OK {
			t.Errorf("%c: %d bytes, %v", letterOf(r), len(s), e)
		}
		writes(t, r)
	}
}

// P13.3: numbers of rows that there aren't, or that may not be.
func TestReadOfTooMany(t *testing.T) {
	leaf := laid(api.Leaf{Id: "a"})
	for _, n := range append(nums(), 1, 2, 2047, 2048, 2049, 1<<31, 1<<32, 1<<32+1, 1<<63) {
		if n == 0 {
			continue
		}
		count := laidNumber(num(0, n))
		for _, s := range []string{
			"E" + leaf + "\x00" + count,
			"G\x00\x00" + count, "G\x00\x00\x00" + count, "G\x00\x00" + count + "\x00",
			"D" + count, "D\x00" + count, "D" + count + "\x00",
		} {
			for _, letter := range []byte(letters) {
				if r, e := read(letter, s); !reflect.DeepEqual(r, none(letter)) || e != api.ErrCode {
					t.Errorf("%q, read as %c: %s, %v", s, letter, shown(r), e)
				}
			}
			if n > 2048 {
				// There are as many as that here, if the number came round.
				reads(t, s+strings.Repeat("\x00\x00", int(n%65536)))
			}
		}
	}
}

// near asks what is read of bytes that are nearly those: less, more, and others at each place.
func near(t *testing.T, s string) {
	t.Helper()
	for at := range len(s) + 1 {
		reads(t, s[:at])
		reads(t, s[at:])
		for _, b := range []string{"\x00", "\x01", "\x02", "\x08", "\x09", "\x11", "\x20", "\x21", "\x40", "a", "R", "\xff"} {
			reads(t, s[:at]+b+s[at:])
			if at < len(s) {
				reads(t, s[:at]+b+s[at+1:])
			}
		}
		if at < len(s) {
			reads(t, s[:at]+s[at+1:])
		}
	}
	reads(t, s+s)
}

// P13.3, P13.5, P13.6
func TestReadOfWhatIsNearlyOne(t *testing.T) {
	may, pad, n := api.Leaf{Id: "ä", Salt: "st", Balance: num(0, 300)}, api.Leaf{Pad: true, Salt: "\x00"}, nodes()
	for _, r := range []any{
		api.Root{}, api.Root{Hash: "ab", Total: num(0, 5), Height: 1}, api.Root{Hash: picked(32), Total: num(top, top), Height: 63},
		may, pad, api.Leaf{Pad: true}, api.Leaf{Id: "a"}, api.Leaf{Id: wideId, Salt: picked(32), Balance: num(1, 0)},
		api.Entry{Leaf: may, Proof: api.Proof{Position: 3, Sides: n[:4]}}, api.Entry{Leaf: pad},
		api.Range{}, api.Range{From: 1, To: 300, In: n[:2], Out: n[4:7]}, api.Range{In: n[:1]}, api.Range{Out: n[:1]},
		api.Diff{}, api.Diff{Changes: []api.Change{{Position: 2, Old: pad, New: may}, {Position: 256, Old: may, New: pad}}, Frontier: n[:3]}, api.Diff{Frontier: n[:1]},
	} {
		near(t, whole(r))
	}
}

// P13.6: with each byte ahead, it is just of its own letter.
func TestLetters(t *testing.T) {
	for _, r := range records() {
		s, letter := laid(r), letterOf(r)
		if len(s) > 300 {
			continue
		}
		for b := range 256 {
			ahead := string([]byte{byte(b)}) + s
			if byte(b) != letter {
				if got, e := read(letter, ahead); !reflect.DeepEqual(got, none(letter)) || e != api.ErrCode {
					t.Fatalf("%q, read as %c: %s, %v", ahead, letter, shown(got), e)
				}
			}
		}
		for _, other := range []byte(letters) {
			reads(t, string([]byte{other})+s)
			if got, e := read(other, whole(r)); other != letter && (!reflect.DeepEqual(got, none(other)) || e != api.ErrCode) {
				t.Fatalf("%q, read as %c: %s, %v", whole(r), other, shown(got), e)
			}
		}
	}
}

// P13.3: all bytes of up to three, and of chance behind each letter.
func TestReadOfAny(t *testing.T) {
	reads(t, "")
	for b := range 256 {
		reads(t, string([]byte{byte(b)}))
	}
	for _, letter := range []byte(letters) {
		for n := range 1 << 16 {
			reads(t, string([]byte{letter, byte(n >> 8), byte(n)}))
		}
	}
	r := rand.New(rand.NewPCG(13, 3))
	for range 200000 {
		b := make([]byte, 1+r.IntN(25))
		for i := range b {
			b[i] = "\x00\x00\x00\x01\x01\x01\x02a"[r.IntN(8)]
		}
		b[0] = letters[r.IntN(len(letters))]
		reads(t, string(b))
	}
	for _, letter := range letters {
		reads(t, string(letter)+strings.Repeat("\x00", 1<<20))
		reads(t, string(letter)+strings.Repeat("\x01", 1<<20))
	}
}

// chanced tells a record of the letter's sort that chance picks.
func chanced(r *rand.Rand, letter byte) any {
	w, u, l, n := wides(), nums(), leaves(), nodes()
	leaf := func() api.Leaf { return l[r.IntN(len(l))] }
	list := func() []api.Node {
		var x []api.Node
		for range r.IntN(6) {
			x = append(x, n[r.IntN(len(n))])
		}
		return x
	}
	position := func() uint64 { return u[r.IntN(len(u))] }
	switch letter {
	case 'R':
		return api.Root{Hash: n[r.IntN(len(n))].Hash, Total: w[r.IntN(len(w))], Height: r.IntN(64)}
	case 'L':
		return leaf()
	case 'E':
		return api.Entry{Leaf: leaf(), Proof: api.Proof{Position: position(), Sides: list()}}
	case 'G':
		return api.Range{From: position(), To: position(), In: list(), Out: list()}
	}
	d := api.Diff{Frontier: list()}
	for range r.IntN(5) {
		d.Changes = append(d.Changes, api.Change{Position: position(), Old: leaf(), New: leaf()})
	}
	return d
}

// P13.3, P13.5, P13.6: records of chance, and what chance makes of their bytes.
func TestChance(t *testing.T) {
	r := rand.New(rand.NewPCG(13, 5))
	for range 3000 {
		x := chanced(r, letters[r.IntN(len(letters))])
		writes(t, x)
		b := []byte(whole(x))
		for range 1 + r.IntN(3) {
			b[r.IntN(len(b))] = byte(r.Uint32() >> r.IntN(32))
		}
		reads(t, string(b))
	}
}

// others tells records that differ from the one in one thing each.
func others(r any) []any {
	var l []any
	n := func(l []api.Node) [][]api.Node {
		more := [][]api.Node{append(slices.Clone(l), api.Node{}), append([]api.Node{{Hash: "new"}}, l...)}
		for i := range l {
			hash, hi, lo := slices.Clone(l), slices.Clone(l), slices.Clone(l)
			hash[i].Hash += "x"
			hi[i].Sum.Hi++
			lo[i].Sum.Lo++
			more = append(more, slices.Delete(slices.Clone(l), i, i+1), hash, hi, lo)
			if j := (i + 1) % len(l); l[i] != l[j] {
				turned := slices.Clone(l)
				turned[i], turned[j] = turned[j], turned[i]
				more = append(more, turned)
			}
		}
		return more
	}
	leaf := func(x api.Leaf) []api.Leaf {
		pad, id, salt, hi, lo := x, x, x, x, x
		pad.Pad = !pad.Pad
		id.Id += "x"
		salt.Salt += "x"
		hi.Balance.Hi++
		lo.Balance.Lo++
		return []api.Leaf{pad, id, salt, hi, lo}
	}
	switch x := r.(type) {
	case api.Entry:
		for _, y := range leaf(x.Leaf) {
			l = append(l, api.Entry{Leaf: y, Proof: x.Proof})
		}
		for _, y := range n(x.Proof.Sides) {
			l = append(l, api.Entry{Leaf: x.Leaf, Proof: api.Proof{Position: x.Proof.Position, Sides: y}})
		}
		return append(l, api.Entry{Leaf: x.Leaf, Proof: api.Proof{Position: x.Proof.Position + 1, Sides: x.Proof.Sides}})
	case api.Range:
		for _, y := range n(x.In) {
			l = append(l, api.Range{From: x.From, To: x.To, In: y, Out: x.Out})
		}
		for _, y := range n(x.Out) {
			l = append(l, api.Range{From: x.From, To: x.To, In: x.In, Out: y})
		}
		if !alike(api.Range{In: x.In}, api.Range{In: x.Out}) {
			l = append(l, api.Range{From: x.From, To: x.To, In: x.Out, Out: x.In})
		}
		return append(l, api.Range{From: x.From + 1, To: x.To, In: x.In, Out: x.Out}, api.Range{From: x.From, To: x.To - 1, In: x.In, Out: x.Out})
	case api.Diff:
		for _, y := range n(x.Frontier) {
			l = append(l, api.Diff{Changes: x.Changes, Frontier: y})
		}
		for i, c := range x.Changes {
			l = append(l, api.Diff{Changes: slices.Delete(slices.Clone(x.Changes), i, i+1), Frontier: x.Frontier})
			with := func(c api.Change) {
				y := slices.Clone(x.Changes)
				y[i] = c
				l = append(l, api.Diff{Changes: y, Frontier: x.Frontier})
			}
			with(api.Change{Position: c.Position + 1, Old: c.Old, New: c.New})
			for _, y := range leaf(c.Old) {
				with(api.Change{Position: c.Position, Old: y, New: c.New})
			}
			for _, y := range leaf(c.New) {
				with(api.Change{Position: c.Position, Old: c.Old, New: y})
			}
		}
		return append(l, api.Diff{Changes: append(slices.Clone(x.Changes), api.Change{}), Frontier: x.Frontier})
	}
	panic("no record")
}

// same tells what the call of their sort tells of both.
func same(a, b any) bool {
	switch x := a.(type) {
	case api.Entry:
		return pack.SameEntry(x, b.(api.Entry))
	case api.Range:
		return pack.SameRange(x, b.(api.Range))
	case api.Diff:
		return pack.SameDiff(x, b.(api.Diff))
	}
	panic("no record")
}

// P13.4: of such as may be told, and such as may not.
func TestSame(t *testing.T) {
	n := nodes()
	var l []any
	for i, r := range slices.Concat(entries(), ranges(), diffs()) {
		if len(laid(r)) < 2000 || i%40 == 0 && len(laid(r)) < 9000 {
			l = append(l, r)
		}
	}
	l = append(l,
		api.Entry{}, api.Entry{Leaf: api.Leaf{Id: "a b", Salt: picked(99)}, Proof: api.Proof{Sides: []api.Node{{Hash: picked(99)}}}},
		api.Range{In: []api.Node{{Hash: picked(99)}, {}}}, api.Range{From: 3, To: 9, In: n[:2], Out: n[2:4]},
		api.Diff{Changes: []api.Change{{}}}, api.Diff{Changes: []api.Change{{New: api.Leaf{Pad: true, Id: "a"}}, {Position: 4}}, Frontier: []api.Node{{}, {Hash: picked(99)}}},
	)
	for _, r := range l {
		if !same(r, tidy(r)) || !same(tidy(r), r) {
			t.Fatalf("%s isn't the same as itself", shown(r))
		}
		for _, x := range others(r) {
			if same(r, x) || same(x, r) {
				t.Fatalf("%s and %s are the same", shown(r), shown(x))
			}
		}
	}
}

// P13.4: rows without any are the same, be they nil or not.
func TestSameOfNone(t *testing.T) {
	e := []api.Node{}
	if !pack.SameEntry(api.Entry{}, api.Entry{Proof: api.Proof{Sides: e}}) || !pack.SameRange(api.Range{In: e}, api.Range{Out: e}) || !pack.SameDiff(api.Diff{Changes: []api.Change{}}, api.Diff{Frontier: e}) {
		t.Error("rows without any aren't the same")
	}
	for _, r := range []any{api.Entry{Leaf: api.Leaf{Id: "a"}, Proof: api.Proof{Sides: e}}, api.Range{In: e, Out: e}, api.Diff{Changes: []api.Change{}, Frontier: e}} {
		writes(t, r)
	}
}

// P13.4: of many rows, the last one counts.
func TestSameOfMany(t *testing.T) {
	a, b := many(3000, api.Node{Hash: "h"}), many(3000, api.Node{Hash: "h"})
	c, d := many(3000, api.Change{Old: api.Leaf{Id: "a"}}), many(3000, api.Change{Old: api.Leaf{Id: "a"}})
	entry := func(l []api.Node) api.Entry { return api.Entry{Proof: api.Proof{Sides: l}} }
	for _, want := range []bool{true, false} {
		for _, is := range []bool{
			pack.SameEntry(entry(a), entry(b)),
			pack.SameRange(api.Range{In: a}, api.Range{In: b}), pack.SameRange(api.Range{Out: a}, api.Range{Out: b}),
			pack.SameDiff(api.Diff{Frontier: a}, api.Diff{Frontier: b}), pack.SameDiff(api.Diff{Changes: c}, api.Diff{Changes: d}),
		} {
			if is != want {
				t.Errorf("%v, not %v", is, want)
			}
		}
		b[2999].Hash, d[2999].New.Pad = "i", true
	}
}

// within tells whether some text of the record is of that text's memory.
func within(r reflect.Value, text string) bool {
	switch r.Kind() {
	case reflect.String:
		from := uintptr(unsafe.Pointer(unsafe.StringData(text)))
		at := uintptr(unsafe.Pointer(unsafe.StringData(r.String())))
		return r.Len() > 0 && at >= from && at < from+uintptr(len(text))
	case reflect.Struct:
		for i := range r.NumField() {
			if within(r.Field(i), text) {
				return true
			}
		}
	case reflect.Slice:
		for i := range r.Len() {
			if within(r.Index(i), text) {
				return true
			}
		}
	}
	return false
}

// What is told is the caller's own: no piece of what came in, and no memory of any other list.
func TestOwn(t *testing.T) {
	for _, r := range records() {
		s := whole(r)
		got, _ := read(letterOf(r), s)
		if within(reflect.ValueOf(got), s) {
			t.Fatalf("%s has the caller's memory", shown(got))
		}
	}
	leaf := api.Leaf{Id: "alice", Salt: "salt"}
	if s, _ := pack.Leaf(leaf); within(reflect.ValueOf(leaf), s) {
		t.Error("a leaf's bytes are of its own memory")
	}
	long := strings.Repeat("alice", 6)
	if s, _ := pack.Root(api.Root{Hash: long}); within(reflect.ValueOf(s), long) {
		t.Error("a root's bytes are of the caller's memory")
	}
	g, _ := pack.ReadRange(whole(api.Range{In: nodes()[:3], Out: nodes()[3:6]}))
	_ = append(g.In[:0:cap(g.In)], many(cap(g.In), api.Node{Hash: "other"})...)
	if !slices.Equal(g.Out, nodes()[3:6]) {
		t.Errorf("Out goes with In: %s", shown(g.Out))
	}
	again, _ := pack.ReadRange(whole(api.Range{In: nodes()[:3], Out: nodes()[3:6]}))
	if !slices.Equal(again.In, nodes()[:3]) {
		t.Errorf("read again: %s", shown(again.In))
	}
}

// What is handed in stays as it is: what is behind a list's end, too.
func TestStays(t *testing.T) {
	n := nodes()[:8]
	c := many(4, api.Change{Position: 1, Old: api.Leaf{Id: "a"}, New: api.Leaf{Pad: true}})
	n0, c0 := slices.Clone(n), slices.Clone(c)
	for _, r := range []any{api.Entry{Leaf: api.Leaf{Id: "a"}, Proof: api.Proof{Sides: n[:2]}}, api.Range{In: n[:3], Out: n[1:4]}, api.Diff{Changes: c[:2], Frontier: n[:2]}} {
		write(r)
		same(r, r)
	}
	if !slices.Equal(n, n0) || !slices.Equal(c, c0) {
		t.Error("what was handed in is another")
	}
}
