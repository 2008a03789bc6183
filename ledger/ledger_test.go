package ledger_test

import (
	"bytes"
	"math"
	"math/big"
	"math/rand/v2"
	"slices"
	"strconv"
	"strings"
	"testing"
	"unsafe"

	"paymaster/api"
	"paymaster/ledger"
)

// of tells a row of a small amount.
func of(id string, n uint64) api.Row { return api.Row{Id: id, Amount: api.U128{Lo: n}} }

// power tells 2^n, less the number.
func power(n uint, less int64) *big.Int {
	p := new(big.Int).Lsh(big.NewInt(1), n)
	return p.Sub(p, big.NewInt(less))
}

// narrow tells a number of math/big as an amount.
func narrow(n *big.Int) api.U128 {
	low := new(big.Int).And(n, power(64, 1))
	return api.U128{Hi: new(big.Int).Rsh(n, 64).Uint64(), Lo: low.Uint64()}
}

// big128 tells an amount as a number of math/big.
func big128(a api.U128) *big.Int {
	n := new(big.Int).SetUint64(a.Hi)
	return n.Lsh(n, 64).Add(n, new(big.Int).SetUint64(a.Lo))
}

// most is the greatest amount.
var most = api.U128{Hi: math.MaxUint64, Lo: math.MaxUint64}

// sum tells the sum of all amounts, without end.
func sum(l []api.Row) *big.Int {
	all := new(big.Int)
	for _, r := range l {
		all.Add(all, big128(r.Amount))
	}
	return all
}

// byId tells the rows by their Ids, byte by byte, those of one Id as they stood.
func byId(l []api.Row) []api.Row {
	sorted := slices.Clone(l)
	slices.SortStableFunc(sorted, func(a, b api.Row) int { return bytes.Compare([]byte(a.Id), []byte(b.Id)) })
	return sorted
}

// lineOf tells the row's line, by the document's words.
func lineOf(r api.Row) string { return r.Id + " " + big128(r.Amount).String() }

// piece is a line, and what it tells by itself: a row, nothing, or what is wrong with it.
type piece struct {
	line string
	rows []api.Row
	err  api.Errno
}

// rowPiece, idle and bad are a row's line, one that tells nothing, and one with which something is wrong.
func rowPiece(r api.Row) piece             { return piece{line: lineOf(r), rows: []api.Row{r}} }
func idle(line string) piece               { return piece{line: line} }
func bad(line string, err api.Errno) piece { return piece{line: line, err: err} }

// pieces tells the rows' lines.
func pieces(l ...api.Row) (all []piece) {
	for _, r := range l {
		all = append(all, rowPiece(r))
	}
	return all
}

// textOf tells the pieces as a text.
func textOf(l []piece) string {
	lines := make([]string, len(l))
	for i, p := range l {
		lines[i] = p.line
	}
	return strings.Join(lines, "\n")
}

// behind tells what is wrong with a row behind the others, by the document's words.
func behind(l []api.Row, r api.Row, height int) api.Errno {
	switch {
	case len(l) >= int(math.Pow(2, float64(height))):
		return api.ErrRows
	case slices.ContainsFunc(l, func(x api.Row) bool { return x.Id == r.Id }):
		return api.ErrTwice
	case sum(append(slices.Clone(l), r)).Cmp(power(128, 0)) >= 0:
		return api.ErrTotal
	}
	return api.OK
}

// judged tells what the pieces are as a ledger, by the document's words.
func judged(l []piece, height int) ([]api.Row, int, api.Errno) {
	switch {
	case height < 0 || height > 10:
		return nil, 0, api.ErrHeight
	case len(textOf(l)) > 65536:
		return nil, 0, api.ErrLong
	}
	var rows []api.Row
	for i, p := range l {
		if p.err != api.OK {
			return nil, i + 1, p.err
		}
		for _, r := range p.rows {
			if e := behind(rows, r, height); e != api.OK {
				return nil, i + 1, e
			}
			rows = append(rows, r)
		}
	}
	return byId(rows), 0, api.OK
}

// checkImport holds Import of the pieces' text against the document's words, and tells what it told.
func checkImport(t *testing.T, l []piece, height int) ([]api.Row, int, api.Errno) {
	t.Helper()
	text := textOf(l)
	want, n, f := judged(l, height)
	rows, number, e := ledger.Import(text, height)
	if !slices.Equal(rows, want) || number != n || e != f {
		t.Fatalf("Import(%.200q, %d): %v %d %d, not %v %d %d", text, height, rows, number, e, want, n, f)
	}
	if e != api.OK && rows != nil {
		t.Fatalf("Import(%.200q, %d): %v beside %d", text, height, rows, e)
	}
	return rows, number, e
}

// checkLedger holds a text's rows against P11.6 and P11.7: exported they are imported as they are, and Check and Total tell them.
func checkLedger(t *testing.T, rows []api.Row, height int) {
	t.Helper()
	if n, e := ledger.Check(rows, height); n != 0 || e != api.OK {
		t.Fatalf("Check(%v, %d): %d %d", rows, height, n, e)
	}
	if total, e := ledger.Total(rows); big128(total).Cmp(sum(rows)) != 0 || e != api.OK {
		t.Fatalf("Total(%v): %v %d", rows, total, e)
	}
	text, e := ledger.Export(rows)
	if e != api.OK {
		t.Fatalf("Export(%v): %d", rows, e)
	}
	if back, n, e := ledger.Import(text, height); !slices.Equal(back, rows) || n != 0 || e != api.OK {
		t.Fatalf("Import(%.200q, %d): %v %d %d, not %v", text, height, back, n, e, rows)
	}
}

// wrongLines are some of each error of a line, and of a row.
func wrongLines() []piece {
	return []piece{
		bad("\xff", api.ErrUtf), bad("a\xff 1", api.ErrUtf), bad("#\xff", api.ErrUtf), bad("a 1\xed\xa0\x80", api.ErrUtf), bad(strings.Repeat("a", 81)+"\xff", api.ErrUtf),
		bad(strings.Repeat("a", 81), api.ErrLine), bad("#"+strings.Repeat("ä", 80), api.ErrLine), bad("a 1"+strings.Repeat("0", 78), api.ErrLine),
		bad("a", api.ErrRow), bad("250", api.ErrRow), bad("a\t1", api.ErrRow), bad("\r", api.ErrRow), bad("/", api.ErrRow),
		bad(" ", api.ErrId), bad(" 1", api.ErrId), bad(" # x", api.ErrId), bad("al/ice 5", api.ErrId), bad(strings.Repeat("a", 25)+" 1", api.ErrId), bad("a/ 01", api.ErrId),
		bad("a ", api.ErrAmount), bad("a 01", api.ErrAmount), bad("a  1", api.ErrAmount), bad("a 1 ", api.ErrAmount), bad("a -1", api.ErrAmount), bad("a 1\r", api.ErrAmount), bad("a "+power(128, 0).String(), api.ErrAmount),
	}
}

// texts tells all rows of at most so many of the pieces.
func texts(l []piece, size int) [][]piece {
	all, last := [][]piece{nil}, [][]piece{nil}
	for range size {
		var next [][]piece
		for _, head := range last {
			for _, p := range l {
				next = append(next, append(slices.Clip(head), p))
			}
		}
		all, last = append(all, next...), next
	}
	return all
}

// few are lines of which one is picked for each place of a text.
func few() []piece {
	return append(pieces(of("a", 1), of("a", 2), of("b", 0), of("C", 7), api.Row{Id: "a", Amount: most}, api.Row{Id: "ä", Amount: most}),
		idle(""), idle("# a 1"), bad("a", api.ErrRow), bad("/ 1", api.ErrId), bad("a 01", api.ErrAmount), bad("\xff", api.ErrUtf), bad(strings.Repeat("x", 81), api.ErrLine))
}

// P11.1: the examples.
func TestExamples(t *testing.T) {
	greatest := "a " + power(128, 1).String()
	for _, x := range []struct {
		text         string
		height, line int
		err          api.Errno
		rows         []api.Row
	}{
		{"b 2\na 1", 1, 0, api.OK, []api.Row{of("a", 1), of("b", 2)}},
		{"b 2\na 1", 0, 2, api.ErrRows, nil},
		{"b 2\na 1\na 3", 2, 3, api.ErrTwice, nil},
		{"b 2\na 1\na 3", 10, 3, api.ErrTwice, nil},
		{"b 2\na 1\na 3", 1, 3, api.ErrRows, nil},
		{greatest + "\nb 1", 1, 2, api.ErrTotal, nil},
		{"b 1\n" + greatest, 1, 2, api.ErrTotal, nil},
	} {
		l, n, e := ledger.Import(x.text, x.height)
		if !slices.Equal(l, x.rows) || n != x.line || e != x.err {
			t.Errorf("Import(%q, %d): %v %d %d, not %v %d %d", x.text, x.height, l, n, e, x.rows, x.line, x.err)
		}
	}
}

// P11.1, P11.6, P11.7: all small texts, of each height that tells them apart.
func TestImportSmall(t *testing.T) {
	for _, l := range texts(few(), 4) {
		for _, height := range []int{-1, 0, 1, 2, 10, 11} {
			if len(l) == 0 {
				// No piece at all is the same text as one empty line.
				l = []piece{idle("")}
			}
			rows, _, e := checkImport(t, l, height)
			if e == api.OK {
				checkLedger(t, rows, height)
			}
		}
	}
}

// P11.1: no rows: the empty text, empty lines, remarks.
func TestImportNone(t *testing.T) {
	for _, text := range []string{"", "\n", "\n\n\n", "#", "# a 1", "#\n#a 1\n\n", "##", "#" + strings.Repeat("x", 79), strings.Repeat("#\n", 2000)} {
		for height := range 11 {
			if l, n, e := ledger.Import(text, height); len(l) != 0 || n != 0 || e != api.OK {
				t.Errorf("Import(%.50q, %d): %v %d %d", text, height, l, n, e)
			}
		}
	}
	checkLedger(t, nil, 0)
	checkLedger(t, []api.Row{}, 10)
}

// P11.1: each error of a line and of a row, in the first, a middle and the last line, in one that stands alone, and in more than one.
func TestImportWrong(t *testing.T) {
	good := append(pieces(of("c", 3), of("b", 2)), idle(""), idle("# x"), rowPiece(of("d", 4)))
	for _, wrong := range wrongLines() {
		checkImport(t, []piece{wrong}, 0)
		for at := range len(good) + 1 {
			l := slices.Insert(slices.Clone(good), at, wrong)
			if _, n, e := checkImport(t, l, 2); n != at+1 || e != wrong.err {
				t.Errorf("%q at %d: %d %d", wrong.line, at, n, e)
			}
			for _, other := range wrongLines() {
				for to := range len(l) + 1 {
					checkImport(t, slices.Insert(slices.Clone(l), to, other), 2)
				}
			}
			// What is wrong with the line itself comes ahead of rows that are too many.
			checkImport(t, l, 0)
			checkImport(t, l, 1)
		}
	}
}

// P11.1: of a row that is too many, is there twice, and has no room, the first of these is told.
func TestImportFirst(t *testing.T) {
	great := api.Row{Id: "a", Amount: most}
	for _, x := range []struct {
		rows         []api.Row
		height, line int
		err          api.Errno
	}{
		{[]api.Row{great, of("a", 1)}, 0, 2, api.ErrRows},
		{[]api.Row{great, of("a", 1)}, 1, 2, api.ErrTwice},
		{[]api.Row{great, of("b", 1)}, 0, 2, api.ErrRows},
		{[]api.Row{great, of("b", 1)}, 1, 2, api.ErrTotal},
		{[]api.Row{great, of("b", 0), of("b", 1)}, 1, 3, api.ErrRows},
		{[]api.Row{great, of("b", 0), of("b", 1)}, 2, 3, api.ErrTwice},
		{[]api.Row{great, of("b", 0), of("c", 1)}, 2, 3, api.ErrTotal},
		{[]api.Row{great, of("b", 1), of("a", 1)}, 2, 2, api.ErrTotal},
		{[]api.Row{of("a", 1), of("a", 1), great}, 1, 2, api.ErrTwice},
	} {
		if _, n, e := checkImport(t, pieces(x.rows...), x.height); n != x.line || e != x.err {
			t.Errorf("Import of %v, %d: %d %d, not %d %d", x.rows, x.height, n, e, x.line, x.err)
		}
		if n, e := ledger.Check(x.rows, x.height); n != x.line || e != x.err {
			t.Errorf("Check(%v, %d): %d %d, not %d %d", x.rows, x.height, n, e, x.line, x.err)
		}
	}
}

// noHeights are some of which no ledger may be.
func noHeights() []int {
	return []int{-1, -2, -10, -63, -64, math.MinInt, 11, 12, 31, 32, 63, 64, 65, 128, math.MaxInt}
}

// P11.1, P11.2: a height that may not be is told ahead of all, at 0.
func TestHeights(t *testing.T) {
	long := strings.Repeat("\n", api.MaxText+1)
	for _, height := range noHeights() {
		for _, text := range []string{"", "a 1", "a", "\xff", "a 1\na 1", long, "\xff" + long} {
			if l, n, e := ledger.Import(text, height); l != nil || n != 0 || e != api.ErrHeight {
				t.Errorf("Import(%.20q, %d): %v %d %d", text, height, l, n, e)
			}
		}
		for _, l := range [][]api.Row{nil, {of("a", 1)}, {of("", 1)}, {of("a", 1), of("a", 1)}, {of("/", 1), of("/", 1)}} {
			if n, e := ledger.Check(l, height); n != 0 || e != api.ErrHeight {
				t.Errorf("Check(%v, %d): %d %d", l, height, n, e)
			}
		}
	}
	for height := range 11 {
		if l, n, e := ledger.Import("a 1", height); !slices.Equal(l, []api.Row{of("a", 1)}) || n != 0 || e != api.OK {
			t.Errorf("Import of one row, %d: %v %d %d", height, l, n, e)
		}
	}
}

// many tells so many rows of unlike Ids.
func many(n int) []api.Row {
	var l []api.Row
	for i := range n {
		l = append(l, of("u"+strconv.Itoa(i), uint64(i)))
	}
	return l
}

// P11.1, P11.2: of each height as many rows as there is room for, and one more; remarks and empty lines are none.
func TestRows(t *testing.T) {
	for height := range 11 {
		room := 1 << height
		rows := many(room + 3)
		l, n, e := checkImport(t, pieces(rows[:room]...), height)
		if len(l) != room || n != 0 || e != api.OK {
			t.Errorf("%d rows, %d: %d %d %d", room, height, len(l), n, e)
		}
		checkLedger(t, l, height)
		for _, more := range []int{1, 3} {
			if _, n, e := checkImport(t, pieces(rows[:room+more]...), height); n != room+1 || e != api.ErrRows {
				t.Errorf("%d rows, %d: %d %d", room+more, height, n, e)
			}
			if n, e := ledger.Check(rows[:room+more], height); n != room+1 || e != api.ErrRows {
				t.Errorf("Check of %d rows, %d: %d %d", room+more, height, n, e)
			}
		}
		between := []piece{idle("# u0 1"), idle("")}
		for _, p := range pieces(rows[:room]...) {
			between = append(between, p, idle(""), idle("#"))
		}
		if _, n, e := checkImport(t, between, height); n != 0 || e != api.OK {
			t.Errorf("%d rows with others between, %d: %d %d", room, height, n, e)
		}
		if _, n, e := checkImport(t, append(between, idle(""), rowPiece(rows[room])), height); n != len(between)+2 || e != api.ErrRows {
			t.Errorf("%d rows with others between, %d: %d %d", room+1, height, n, e)
		}
	}
}

// fill tells so many bytes of remarks and an empty line.
func fill(n int) string { return strings.Repeat("#\n", n/2) + strings.Repeat("\n", n%2) }

// P11.1: a text of MaxText bytes, and of one more.
func TestLong(t *testing.T) {
	smiles := "#" + strings.Repeat("\U0001f642", 79) + "\n"
	for _, x := range []struct {
		text string
		line int
		err  api.Errno
		rows []api.Row
	}{
		{fill(65536), 0, api.OK, nil},
		{strings.Repeat("\n", 65536), 0, api.OK, nil},
		{"a 1\n" + fill(65532), 0, api.OK, []api.Row{of("a", 1)}},
		{fill(65532) + "a 10", 0, api.OK, []api.Row{of("a", 10)}},
		{"a 1\n" + fill(65528) + "b 2\n", 0, api.OK, []api.Row{of("a", 1), of("b", 2)}},
		{"a 1\n" + fill(65529) + "a 2", 32767, api.ErrTwice, nil},
		{"\xff\n" + fill(65534), 1, api.ErrUtf, nil},
		{strings.Repeat("\n", 65535) + "a", 65536, api.ErrRow, nil},
		{strings.Repeat("a", 65536), 1, api.ErrLine, nil},
		{strings.Repeat("\xff", 65536), 1, api.ErrUtf, nil},
		{strings.Repeat(smiles, 65536/len(smiles)), 0, api.OK, nil},
	} {
		if l, n, e := ledger.Import(x.text, 2); !slices.Equal(l, x.rows) || n != x.line || e != x.err {
			t.Errorf("%d bytes, %.20q: %v %d %d, not %v %d %d", len(x.text), x.text, l, n, e, x.rows, x.line, x.err)
		}
		for _, more := range []string{"\n", "a", "\xff", fill(100), fill(1 << 20)} {
			for _, text := range []string{x.text + more, more + x.text} {
				if l, n, e := ledger.Import(text, 2); len(text) > 65536 && (l != nil || n != 0 || e != api.ErrLong) {
					t.Errorf("%d bytes, %.20q: %v %d %d", len(text), text, l, n, e)
				}
				if l, n, e := ledger.Import(text, 11); l != nil || n != 0 || e != api.ErrHeight {
					t.Errorf("%d bytes, %.20q, height 11: %v %d %d", len(text), text, l, n, e)
				}
			}
		}
	}
	// It is bytes that are counted, not runes.
	if l, n, e := ledger.Import(strings.Repeat(smiles, 65536/len(smiles)+1), 2); l != nil || n != 0 || e != api.ErrLong {
		t.Errorf("of runes of four bytes: %v %d %d", l, n, e)
	}
}

// P11.1, P11.6: 1024 rows whose lines are just MaxText bytes; rows have no bytes, so that Check takes more of them.
func TestFull(t *testing.T) {
	var rows []api.Row
	long := strings.Repeat("\U0001f642", 12) + "€"
	for i := range 1024 {
		rows = append(rows, of(long+strings.Repeat("0", 6)+strconv.Itoa(1000+i), 7))
	}
	text, e := ledger.Export(rows)
	if len(text) != 65536 || e != api.OK {
		t.Fatalf("%d bytes, %d", len(text), e)
	}
	if l, n, e := ledger.Import(text, 10); !slices.Equal(l, rows) || n != 0 || e != api.OK {
		t.Errorf("%d rows, %d %d", len(l), n, e)
	}
	if l, n, e := ledger.Import(text, 9); l != nil || n != 513 || e != api.ErrRows {
		t.Errorf("%d rows, %d %d", len(l), n, e)
	}
	if l, n, e := ledger.Import(text+"\n", 10); l != nil || n != 0 || e != api.ErrLong {
		t.Errorf("one byte more: %d rows, %d %d", len(l), n, e)
	}
	rows[1023].Amount.Lo = 10
	if n, e := ledger.Check(rows, 10); n != 0 || e != api.OK {
		t.Errorf("Check: %d %d", n, e)
	}
	if text, e := ledger.Export(rows); len(text) != 65537 || e != api.OK {
		t.Errorf("Export: %d bytes, %d", len(text), e)
	}
}

// totals are rows of amounts, with some whose sum just fits.
func totals() [][]*big.Int {
	n := func(l ...*big.Int) []*big.Int { return l }
	zero, one, two, greatest := big.NewInt(0), big.NewInt(1), big.NewInt(2), power(128, 1)
	upper := new(big.Int).Sub(power(128, 0), power(64, 0))
	parts, over := make([]*big.Int, 1024), make([]*big.Int, 1024)
	for i := range 1024 {
		parts[i], over[i] = power(118, 0), power(118, 0)
	}
	parts[1023] = power(118, 1)
	return [][]*big.Int{
		nil, n(zero), n(one), n(greatest), n(zero, zero),
		n(greatest, zero), n(zero, greatest), n(greatest, one), n(one, greatest), n(power(128, 2), one), n(power(128, 2), two), n(two, power(128, 2)),
		n(power(127, 0), power(127, 1)), n(power(127, 0), power(127, 0)), n(power(127, 1), power(127, 1), one), n(power(127, 1), power(127, 1), two),
		n(power(64, 1), one), n(power(64, 1), power(64, 1)), n(upper, power(64, 1)), n(upper, power(64, 0)), n(upper, power(64, 1), one), n(upper, power(64, 1), zero, zero),
		n(greatest, greatest), n(greatest, greatest, greatest), n(greatest, zero, zero, one, zero), n(zero, one, zero, greatest), n(greatest, one, one),
		parts, over,
	}
}

// P11.1, P11.2, P11.7: a total that just fits, and one more; it is told at the first row that has no room.
func TestTotals(t *testing.T) {
	for _, amounts := range totals() {
		var rows []api.Row
		place, all := 0, new(big.Int)
		for i, a := range amounts {
			rows = append(rows, api.Row{Id: "u" + strconv.Itoa(10000+i), Amount: narrow(a)})
			if all.Add(all, a); place == 0 && all.BitLen() > 128 {
				place = i + 1
			}
		}
		want, f := narrow(all), api.OK
		if place > 0 {
			want, f = api.U128{}, api.ErrTotal
		}
		if total, e := ledger.Total(rows); total != want || e != f {
			t.Errorf("Total of %.100v: %v %d, not %v %d", amounts, total, e, want, f)
		}
		if n, e := ledger.Check(rows, 10); n != place || e != f {
			t.Errorf("Check of %.100v: %d %d, not %d %d", amounts, n, e, place, f)
		}
		if l, n, e := ledger.Import(textOf(pieces(rows...)), 10); n != place || e != f || f == api.OK && !slices.Equal(l, rows) || f != api.OK && l != nil {
			t.Errorf("Import of %.100v: %d rows, %d %d, not %d %d", amounts, len(l), n, e, place, f)
		}
	}
}

// P11.2: Total asks for nothing but amounts, whatever the Ids, and however many rows.
func TestTotalOfAny(t *testing.T) {
	for _, x := range []struct {
		rows  []api.Row
		total api.U128
		err   api.Errno
	}{
		{nil, api.U128{}, api.OK},
		{[]api.Row{}, api.U128{}, api.OK},
		{[]api.Row{of("a", 3), of("a", 4)}, api.U128{Lo: 7}, api.OK},
		{[]api.Row{of("", 3), of("/", 4), of("\xff", 5)}, api.U128{Lo: 12}, api.OK},
		{many(5000), api.U128{Lo: 4999 * 2500}, api.OK},
		{[]api.Row{of("", 1), {Amount: most}}, api.U128{}, api.ErrTotal},
		{[]api.Row{{Id: "a", Amount: most}, of("a", 1)}, api.U128{}, api.ErrTotal},
	} {
		if total, e := ledger.Total(x.rows); total != x.total || e != x.err {
			t.Errorf("Total(%.60v): %v %d, not %v %d", x.rows, total, e, x.total, x.err)
		}
	}
}

// P11.1, P11.2: an Id is there twice wherever its rows stand; Ids that look alike aren't.
func TestTwice(t *testing.T) {
	rows := many(40)
	for first := range rows {
		for second := range first {
			l := slices.Clone(rows)
			l[first].Id = l[second].Id
			if _, n, e := checkImport(t, pieces(l...), 6); n != first+1 || e != api.ErrTwice {
				t.Errorf("twice at %d and %d: %d %d", second+1, first+1, n, e)
			}
			if n, e := ledger.Check(l, 6); n != first+1 || e != api.ErrTwice {
				t.Errorf("Check of twice at %d and %d: %d %d", second+1, first+1, n, e)
			}
		}
	}
	alike := []api.Row{of("a", 1), of("A", 1), of("ä", 1), of("a\u0308", 1), of("Ä", 1), of("1", 1), of("01", 1), of("a.", 1), of("a-", 1), of("a_", 1), of("aa", 1), of("\ufeffa", 1), of("а", 1)}
	l, n, e := checkImport(t, pieces(alike...), 4)
	if len(l) != len(alike) || n != 0 || e != api.OK {
		t.Errorf("%v %d %d", l, n, e)
	}
	checkLedger(t, l, 4)
}

// ids are some that may be, of unlike lengths and letters.
func ids() []string {
	return []string{"a", "aa", "ab", "a-", "a.", "a_", "b", "B", "Z", "z", "0", "10", "9", "-", ".", "_", "\u00a1", "ä", "ÿ", "€", "\ufffd", "\U0001f642", "\U0010ffff", "aä", "az", strings.Repeat("y", 24), strings.Repeat("\U0001f642", 24)}
}

// P11.1: rows are told by their Ids, byte by byte.
func TestOrder(t *testing.T) {
	text := "\U0001f642 6\n\ufffd 5\nä 4\nz 3\na 2\nZ 1\n9 9\n10 8"
	want := []api.Row{of("10", 8), of("9", 9), of("Z", 1), of("a", 2), of("z", 3), of("ä", 4), of("\ufffd", 5), of("\U0001f642", 6)}
	if l, n, e := ledger.Import(text, 3); !slices.Equal(l, want) || n != 0 || e != api.OK {
		t.Errorf("%v %d %d", l, n, e)
	}
	chance := rand.New(rand.NewPCG(11, 1))
	var rows []api.Row
	for _, id := range ids() {
		rows = append(rows, of(id, uint64(len(rows))))
	}
	for range 300 {
		chance.Shuffle(len(rows), func(i, j int) { rows[i], rows[j] = rows[j], rows[i] })
		l, _, e := checkImport(t, pieces(rows...), 5)
		if e != api.OK {
			t.Fatalf("Import of %v: %d", rows, e)
		}
		checkLedger(t, l, 5)
	}
}

// orders tells all orders of the pieces.
func orders(l []piece) [][]piece {
	if len(l) == 0 {
		return [][]piece{nil}
	}
	var all [][]piece
	for _, rest := range orders(l[1:]) {
		for at := range len(rest) + 1 {
			all = append(all, slices.Insert(slices.Clone(rest), at, l[0]))
		}
	}
	return all
}

// P11.5: the same lines in all orders come to the same rows, or all to an error.
func TestWhateverOrder(t *testing.T) {
	great := rowPiece(api.Row{Id: "g", Amount: most})
	base := append(pieces(of("b", 2), of("a", 1), of("c", 0)), idle(""), idle("# a 1"))
	for _, more := range []piece{idle("#"), rowPiece(of("d", 4)), rowPiece(of("a", 1)), rowPiece(of("a", 9)), great, bad("a", api.ErrRow), bad("/ 1", api.ErrId), bad("a 01", api.ErrAmount), bad("\xff", api.ErrUtf), bad(strings.Repeat("x", 81), api.ErrLine)} {
		l := append(slices.Clone(base), more)
		for _, height := range []int{0, 1, 2, 10} {
			want, _, f := checkImport(t, l, height)
			for _, other := range orders(l) {
				rows, _, e := checkImport(t, other, height)
				if (e == api.OK) != (f == api.OK) || !slices.Equal(rows, want) {
					t.Fatalf("%q, %d: %v %d, in another order %v %d", textOf(other), height, rows, e, want, f)
				}
			}
		}
	}
}

// anyLedger tells a ledger's rows of a height, as chance has them.
func anyLedger(chance *rand.Rand, height int) []api.Row {
	all := ids()
	chance.Shuffle(len(all), func(i, j int) { all[i], all[j] = all[j], all[i] })
	var l []api.Row
	for _, id := range all[:min(chance.IntN(1<<height+1), len(all))] {
		// Each has so few bits that there is room for all of them.
		l = append(l, api.Row{Id: id, Amount: api.U128{Hi: chance.Uint64() >> (5 + chance.IntN(60)), Lo: chance.Uint64() >> chance.IntN(65)}})
	}
	return l
}

// P11.6, P11.7: ledgers, exported, are imported as they are, with remarks and empty lines between as without; Check and Total tell them as they stand in the text, too.
func TestThereAndBack(t *testing.T) {
	chance := rand.New(rand.NewPCG(11, 6))
	for n := range 2000 {
		height := n % 11
		rows := anyLedger(chance, height)
		if n, e := ledger.Check(rows, height); n != 0 || e != api.OK {
			t.Fatalf("Check(%v, %d): %d %d", rows, height, n, e)
		}
		checkLedger(t, byId(rows), height)
		l := []piece{idle(strings.Repeat("#", chance.IntN(3)))}
		for _, p := range pieces(rows...) {
			l = append(l, p)
			for range chance.IntN(3) {
				l = append(l, idle(strings.Repeat("#", chance.IntN(3))))
			}
		}
		if _, _, e := checkImport(t, l, height); e != api.OK {
			t.Fatalf("Import(%q, %d): %d", textOf(l), height, e)
		}
	}
}

// P11.7: what is wrong is so whatever comes behind that line, while the text isn't too long.
func TestWhateverBehind(t *testing.T) {
	for _, wrong := range wrongLines() {
		for _, tail := range []string{"\n" + fill(65000), "\n" + textOf(pieces(many(2000)...)), strings.Repeat("\n\xff", 30000)} {
			if l, n, e := ledger.Import("b 1\n"+wrong.line+tail, 1); l != nil || n != 2 || e != wrong.err {
				t.Errorf("%q and %.20q: %v %d %d", wrong.line, tail, l, n, e)
			}
		}
	}
	tails := []string{"", "\n", "\na", "\na 1", "\n\xff", "\n/ 1", "\na 01", "\n" + strings.Repeat("x", 81), "\n#", "\nb 1\nb 2\nc 3", "\ng " + power(128, 1).String(), strings.Repeat("\n", 500), "\n" + textOf(pieces(many(20)...))}
	for _, l := range texts(few(), 3) {
		for _, height := range []int{0, 1, 2} {
			_, n, e := judged(l, height)
			if e == api.OK {
				continue
			}
			head := textOf(l[:n])
			for _, tail := range tails {
				if rows, number, f := ledger.Import(head+tail, height); rows != nil || number != n || f != e {
					t.Fatalf("Import(%q and %.50q, %d): %v %d %d, not %d %d", head, tail, height, rows, number, f, n, e)
				}
			}
		}
	}
}

// noIds are some that may not be.
func noIds() []string {
	return []string{"", " ", "a b", "a ", " a", "#", "#a", "al/ice", "a\tb", "a\n", "\n", "\x00", "\x7f", "\u00a0", "\xff", "a\xff", "\xed\xa0\x80", strings.Repeat("a", 25), strings.Repeat("ä", 25), strings.Repeat("a", 1000)}
}

// wrongRow tells the place of the first wrong row, and what is wrong, by the document's words.
func wrongRow(l []api.Row, height int) (int, api.Errno) {
	no := noIds()
	for i, r := range l {
		if slices.Contains(no, r.Id) {
			return i + 1, api.ErrId
		}
		if e := behind(l[:i], r, height); e != api.OK {
			return i + 1, e
		}
	}
	return 0, api.OK
}

// P11.2: all small rows, of each height that tells them apart.
func TestCheckSmall(t *testing.T) {
	some := []api.Row{of("a", 1), of("a", 0), of("b", 2), of("C", 3), {Id: "d", Amount: most}, {Id: "a", Amount: most}, of("", 1), of("al/ice", 5), {Id: "\xff", Amount: most}}
	all, last := [][]api.Row{nil}, [][]api.Row{nil}
	for range 4 {
		var next [][]api.Row
		for _, head := range last {
			for _, r := range some {
				next = append(next, append(slices.Clip(head), r))
			}
		}
		all, last = append(all, next...), next
	}
	for _, l := range all {
		for _, height := range []int{0, 1, 2, 10} {
			want, f := wrongRow(l, height)
			if n, e := ledger.Check(l, height); n != want || e != f {
				t.Fatalf("Check(%v, %d): %d %d, not %d %d", l, height, n, e, want, f)
			}
		}
	}
}

// P11.2, P11.3: rows with an Id that may not be, first, in the midst and last, to be checked and to be exported.
func TestNoIds(t *testing.T) {
	good := []api.Row{of("c", 1), of("a", 2), of("b", 3)}
	for _, id := range noIds() {
		for at := range len(good) + 1 {
			l := slices.Insert(slices.Clone(good), at, of(id, 4))
			if n, e := ledger.Check(l, 2); n != at+1 || e != api.ErrId {
				t.Errorf("Check(%.100v): %d %d", l, n, e)
			}
			if n, e := ledger.Check(l, 0); n != min(at, 1)+1 || (e == api.ErrId) != (at < 2) || e != api.ErrId && e != api.ErrRows {
				t.Errorf("Check(%.100v), height 0: %d %d", l, n, e)
			}
			if text, e := ledger.Export(l); text != "" || e != api.ErrId {
				t.Errorf("Export(%.100v): %q %d", l, text, e)
			}
		}
		// Of one such row everything may be wrong: that it has no Id comes first.
		if n, e := ledger.Check([]api.Row{{Id: "a", Amount: most}, of(id, 1)}, 0); n != 2 || e != api.ErrId {
			t.Errorf("Check of %.50q, too many: %d %d", id, n, e)
		}
		if n, e := ledger.Check([]api.Row{of(id, 1), of(id, 1)}, 1); n != 1 || e != api.ErrId {
			t.Errorf("Check of %.50q twice: %d %d", id, n, e)
		}
		if text, e := ledger.Export([]api.Row{of(id, 1)}); text != "" || e != api.ErrId {
			t.Errorf("Export of %.50q: %q %d", id, text, e)
		}
	}
	for _, id := range ids() {
		if n, e := ledger.Check([]api.Row{of(id, 1)}, 0); n != 0 || e != api.OK {
			t.Errorf("Check of %q: %d %d", id, n, e)
		}
	}
}

// P11.3: an Id that is there, that isn't, and one that is there twice.
func TestFind(t *testing.T) {
	l := []api.Row{of("b", 1), of("a", 2), of("b", 3), of("", 4), of("/", 5), of("a", 6), {Id: "z", Amount: most}}
	for id, want := range map[string]api.Row{"b": l[0], "a": l[1], "": l[3], "/": l[4], "z": l[6]} {
		if r, is := ledger.Find(l, id); r != want || !is {
			t.Errorf("Find of %q: %v %t", id, r, is)
		}
	}
	for _, id := range []string{"c", "A", "aa", "b ", " ", "bb", "\xff", "Z", strings.Repeat("a", 25)} {
		if r, is := ledger.Find(l, id); r != (api.Row{}) || is {
			t.Errorf("Find of %q: %v %t", id, r, is)
		}
	}
	for _, none := range [][]api.Row{nil, {}, l[:0]} {
		for _, id := range []string{"", "a"} {
			if r, is := ledger.Find(none, id); r != (api.Row{}) || is {
				t.Errorf("Find of %q in none: %v %t", id, r, is)
			}
		}
	}
	rows := many(1000)
	for _, want := range rows {
		if r, is := ledger.Find(rows, want.Id); r != want || !is {
			t.Errorf("Find of %q: %v %t", want.Id, r, is)
		}
	}
}

// P11.3: the rows' lines by their Ids, a byte 10 behind each; of rows that are no ledger, too.
func TestExport(t *testing.T) {
	chance := rand.New(rand.NewPCG(11, 3))
	great := api.Row{Id: "g", Amount: most}
	all := [][]api.Row{nil, {}, {of("b", 2), of("a", 1)}, {of("b", 2), of("a", 1), of("b", 1), of("a", 0)}, {great, great, of("ä", 0), of("Z", 10)}, many(3000)}
	for range 200 {
		var l []api.Row
		for range chance.IntN(100) {
			l = append(l, of(ids()[chance.IntN(5)], chance.Uint64()))
		}
		all = append(all, l)
	}
	for _, l := range all {
		want, was := "", slices.Clone(l)
		for _, r := range byId(l) {
			want += lineOf(r) + "\n"
		}
		if text, e := ledger.Export(l); text != want || e != api.OK {
			t.Fatalf("Export(%.200v): %.200q %d, not %.200q", l, text, e, want)
		}
		if !slices.Equal(l, was) {
			t.Fatalf("Export left %.200v", l)
		}
	}
	if text, e := ledger.Export([]api.Row{of("b", 2), of("a", 1)}); text != "a 1\nb 2\n" || e != api.OK {
		t.Errorf("%q %d", text, e)
	}
}

// among tells those of the rows whose Ids the others have, or those whose Ids they haven't, by the document's words.
func among(l, others []api.Row, have bool) (picked []api.Row) {
	for _, r := range l {
		if slices.ContainsFunc(others, func(x api.Row) bool { return x.Id == r.Id }) == have {
			picked = append(picked, r)
		}
	}
	return byId(picked)
}

// checkBetween holds Between against the document's words; what came in stays as it was.
func checkBetween(t *testing.T, was, now []api.Row) {
	t.Helper()
	first, second := slices.Clone(was), slices.Clone(now)
	gone, stay, come := ledger.Between(was, now)
	if !slices.Equal(gone, among(first, second, false)) || !slices.Equal(stay, among(second, first, true)) || !slices.Equal(come, among(second, first, false)) {
		t.Fatalf("Between(%v, %v): %v %v %v", first, second, gone, stay, come)
	}
	for _, l := range [][]api.Row{gone, stay, come} {
		l = append(l, of("zz", 99))
		for i := range l {
			l[i] = of("zz", 99)
		}
	}
	if !slices.Equal(was, first) || !slices.Equal(now, second) {
		t.Fatalf("Between left %v, %v of %v, %v", was, now, first, second)
	}
}

// P11.4: all go, all stay, all come, some of each, and Ids that are there more than once in the first, in the second and in both.
func TestBetween(t *testing.T) {
	a, b, c := []api.Row{of("b", 2), of("a", 1)}, []api.Row{of("d", 4), of("c", 3)}, []api.Row{of("c", 9), of("b", 2), of("A", 5)}
	for _, x := range []struct{ was, now, gone, stay, come []api.Row }{
		{nil, nil, nil, nil, nil},
		{a, nil, []api.Row{of("a", 1), of("b", 2)}, nil, nil},
		{nil, a, nil, nil, []api.Row{of("a", 1), of("b", 2)}},
		{a, a, nil, []api.Row{of("a", 1), of("b", 2)}, nil},
		{a, []api.Row{of("a", 7), of("b", 0)}, nil, []api.Row{of("a", 7), of("b", 0)}, nil},
		{a, b, []api.Row{of("a", 1), of("b", 2)}, nil, []api.Row{of("c", 3), of("d", 4)}},
		{a, c, []api.Row{of("a", 1)}, []api.Row{of("b", 2)}, []api.Row{of("A", 5), of("c", 9)}},
		{b, c, []api.Row{of("d", 4)}, []api.Row{of("c", 9)}, []api.Row{of("A", 5), of("b", 2)}},
		{[]api.Row{of("b", 3), of("a", 2), of("b", 1)}, []api.Row{of("a", 4)}, []api.Row{of("b", 3), of("b", 1)}, []api.Row{of("a", 4)}, nil},
		{[]api.Row{of("b", 3), of("b", 1)}, []api.Row{of("b", 9)}, nil, []api.Row{of("b", 9)}, nil},
		{a, []api.Row{of("b", 8), of("c", 7), of("b", 6), of("c", 5), of("b", 8)}, []api.Row{of("a", 1)}, []api.Row{of("b", 8), of("b", 6), of("b", 8)}, []api.Row{of("c", 7), of("c", 5)}},
		{[]api.Row{of("b", 3), of("b", 1)}, []api.Row{of("b", 1), of("b", 3)}, nil, []api.Row{of("b", 1), of("b", 3)}, nil},
		{[]api.Row{of("", 1), of("/", 2)}, []api.Row{of("", 3), of("\xff", 4)}, []api.Row{of("/", 2)}, []api.Row{of("", 3)}, []api.Row{of("\xff", 4)}},
	} {
		gone, stay, come := ledger.Between(x.was, x.now)
		if !slices.Equal(gone, x.gone) || !slices.Equal(stay, x.stay) || !slices.Equal(come, x.come) {
			t.Errorf("Between(%v, %v): %v %v %v", x.was, x.now, gone, stay, come)
		}
		checkBetween(t, x.was, x.now)
	}
}

// P11.4: all small rows, and long ones of few Ids, as chance has them.
func TestBetweenAny(t *testing.T) {
	all, last := [][]api.Row{nil}, [][]api.Row{nil}
	for n := range 3 {
		var next [][]api.Row
		for _, head := range last {
			for i, id := range []string{"b", "a", "B", ""} {
				next = append(next, append(slices.Clip(head), of(id, uint64(10*n+i))))
			}
		}
		all, last = append(all, next...), next
	}
	for _, was := range all {
		for _, now := range all {
			checkBetween(t, was, now)
		}
	}
	chance := rand.New(rand.NewPCG(11, 4))
	some := func() (l []api.Row) {
		in := 1 + chance.IntN(20)
		for range chance.IntN(200) {
			l = append(l, of(ids()[chance.IntN(in)], chance.Uint64()))
		}
		return l
	}
	for range 500 {
		checkBetween(t, some(), some())
	}
}

// Of all: what comes in stays as it was, be it within a greater array; what is told is the caller's own.
func TestKept(t *testing.T) {
	whole := []api.Row{of("c", 3), of("a", 1), of("b", 2), of("d", 4)}
	was := slices.Clone(whole)
	l := whole[:2]
	for range 2 {
		ledger.Check(l, 1)
		ledger.Check(l, 0)
		ledger.Total(l)
		ledger.Find(l, "a")
		ledger.Export(l)
		ledger.Between(l, whole[1:3])
		ledger.Between(whole[1:3], l)
		if !slices.Equal(whole, was) {
			t.Fatalf("left %v", whole)
		}
	}
	gone, stay, come := ledger.Between(whole[:3:4], []api.Row{of("b", 5), of("e", 6), of("a", 7), of("f", 8)})
	_, _, _ = append(gone, of("x", 1)), append(stay, of("y", 1)), append(come, of("z", 1))
	if !slices.Equal(gone, []api.Row{of("c", 3)}) || !slices.Equal(stay, []api.Row{of("a", 7), of("b", 5)}) || !slices.Equal(come, []api.Row{of("e", 6), of("f", 8)}) || !slices.Equal(whole, was) {
		t.Errorf("%v %v %v of %v", gone, stay, come, whole)
	}
	// Nothing is kept from one call to the next.
	for range 3 {
		if l, n, e := ledger.Import("b 2\na "+power(128, 3).String(), 1); len(l) != 2 || n != 0 || e != api.OK {
			t.Errorf("%v %d %d", l, n, e)
		}
	}
}

// from tells whether the text is a piece of the whole's memory.
func from(s, whole string) bool {
	at, begin := uintptr(unsafe.Pointer(unsafe.StringData(s))), uintptr(unsafe.Pointer(unsafe.StringData(whole)))
	return s != "" && begin <= at && at < begin+uintptr(len(whole))
}

// Of all: no Id that is told is a piece of what came in.
func TestOwn(t *testing.T) {
	text := strings.Clone("alice 250\nbob 7\ncarol 9")
	told, _, _ := ledger.Import(text, 2)
	rows := []api.Row{{Id: text[:5]}, {Id: text[10:13]}}
	r, _ := ledger.Find(rows, text[:5])
	gone, stay, come := ledger.Between(rows, []api.Row{{Id: text[:5]}, {Id: text[16:21]}})
	for _, r := range slices.Concat(told, []api.Row{r}, gone, stay, come) {
		if from(r.Id, text) {
			t.Errorf("%q is a piece of what came in", r.Id)
		}
	}
}
