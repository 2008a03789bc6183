package row

import (
	"math/big"
	"math/rand/v2"
	"slices"
	"strings"
	"testing"
	"unicode/utf8"
	"unsafe"

	"paymaster/api"
	"paymaster/lines"
)

// of tells a row of a small amount.
func of(id string, n uint64) api.Row { return api.Row{Id: id, Amount: api.U128{Lo: n}} }

// most is the greatest amount, and pastMost the text of one more.
var most = api.U128{Hi: 1<<64 - 1, Lo: 1<<64 - 1}

const (
	mostText = "340282366920938463463374607431768211455"
	pastMost = "340282366920938463463374607431768211456"
)

// isId tells whether the text is an Id, by the document's words.
func isId(s string) bool {
	if !utf8.ValidString(s) {
		return false
	}
	l := []rune(s)
	for _, r := range l {
		if r < 161 && !strings.ContainsRune("abcdefghijklmnopqrstuvwxyzABCDEFGHIJKLMNOPQRSTUVWXYZ0123456789._-", r) {
			return false
		}
	}
	return 1 <= len(l) && len(l) <= 24
}

// number tells an amount as one of math/big.
func number(a api.U128) *big.Int {
	n := new(big.Int).SetUint64(a.Hi)
	return n.Lsh(n, 64).Or(n, new(big.Int).SetUint64(a.Lo))
}

// amount tells the number whose text it is, by the document's words, and whether it is one's.
func amount(s string) (api.U128, bool) {
	n, is := new(big.Int).SetString(s, 10)
	if !is || n.Sign() < 0 || n.String() != s || n.BitLen() > 128 {
		return api.U128{}, false
	}
	low := new(big.Int).SetUint64(1<<64 - 1)
	return api.U128{Hi: new(big.Int).Rsh(n, 64).Uint64(), Lo: low.And(low, n).Uint64()}, true
}

// parsed tells what a line is as a row, by the document's words.
func parsed(line string) (api.Row, api.Errno) {
	at := slices.Index([]byte(line), 32)
	if at < 0 {
		return api.Row{}, api.ErrRow
	}
	if !isId(line[:at]) {
		return api.Row{}, api.ErrId
	}
	a, is := amount(line[at+1:])
	if !is {
		return api.Row{}, api.ErrAmount
	}
	return api.Row{Id: line[:at], Amount: a}, api.OK
}

// told tells what a text's lines tell, by the document's words.
func told(text string) ([]api.Row, int, api.Errno) {
	var l []api.Row
	for i, line := range strings.Split(text, "\n") {
		switch {
		case !utf8.ValidString(line):
			return nil, i + 1, api.ErrUtf
		case len([]rune(line)) > 80:
			return nil, i + 1, api.ErrLine
		case line == "" || line[0] == '#':
			continue
		}
		r, e := parsed(line)
		if e != api.OK {
			return nil, i + 1, e
		}
		l = append(l, r)
	}
	return l, 0, api.OK
}

// ids are some that may be: of one rune and of 24, of one byte and of more each.
func ids() []string {
	l := []string{"alice", "0", "-", ".", "_", "A", "Z", "z", "9", "a.b-c_d", "\u00a1", "\ufffd", "ä", "\u2028", "\U0010ffff", "\U0001f642"}
	for _, r := range []string{"a", "ä", "€", "\U0001f642", "\ufffd"} {
		l = append(l, r, strings.Repeat(r, 23), strings.Repeat(r, 24))
	}
	return append(l, strings.Repeat("aé€\U0001f642", 6))
}

// noIds are some that may not be.
func noIds() []string {
	return []string{"", "#", "#a", "al/ice", "a\tb", "\t", "a\n", "\n", "a,b", "+", "=", "@", "[", "`", "{", "/", ":", "\x00", "\x7f", "\u0080", "\u00a0", "a\u00a0", "\xff", "a\xff", "\xc3", "\xe2\x82", "\xed\xa0\x80", "\xf4\x90\x80\x80", "\xc1\xa1",
		strings.Repeat("a", 25), strings.Repeat("ä", 25), strings.Repeat("\U0001f642", 25), strings.Repeat("a", 300), strings.Repeat("a", 24) + "\xff"}
}

// amounts are some texts of numbers; noAmounts are none's.
var (
	amounts   = []string{"0", "1", "9", "10", "250", "18446744073709551615", "18446744073709551616", "99999999999999999999999999999999999999", mostText}
	noAmounts = []string{"", " ", " 5", "5 ", "5 6", "05", "00", "-5", "+5", "-0", "5.", "1_000", "0x5", "a", "\t5", "5\n", "\n", "5\xff", "\xff", "\u0665", "\uff15", pastMost, mostText + "0", "1" + mostText, strings.Repeat("9", 40), strings.Repeat("9", 500), "0" + mostText, pastMost + " "}
)

// from tells whether the text is a piece of the whole's memory.
func from(s, whole string) bool {
	if s == "" || whole == "" {
		return false
	}
	at, begin := uintptr(unsafe.Pointer(unsafe.StringData(s))), uintptr(unsafe.Pointer(unsafe.StringData(whole)))
	return begin <= at && at < begin+uintptr(len(whole))
}

// check holds Parse of a line against the document's words.
func check(t *testing.T, line string) {
	t.Helper()
	want, f := parsed(line)
	if r, e := Parse(line); r != want || e != f {
		t.Fatalf("Parse(%q): %v %d, not %v %d", line, r, e, want, f)
	}
}

// P10.1: each Id with each amount has a line, from which just that row is parsed.
func TestParseRows(t *testing.T) {
	for _, id := range ids() {
		for _, s := range amounts {
			a, is := amount(s)
			if !is || number(a).String() != s {
				t.Fatalf("%q is no amount here", s)
			}
			want := api.Row{Id: id, Amount: a}
			if r, e := Parse(id + " " + s); r != want || e != api.OK {
				t.Errorf("Parse(%q): %v %d", id+" "+s, r, e)
			}
			if line, e := Text(want); line != id+" "+s || e != api.OK {
				t.Errorf("Text(%v): %q %d", want, line, e)
			}
		}
	}
	if r, e := Parse("a " + mostText); r.Amount != most || e != api.OK {
		t.Errorf("the greatest: %v %d", r, e)
	}
	if r, e := Parse("a 18446744073709551616"); r.Amount != (api.U128{Hi: 1}) || e != api.OK {
		t.Errorf("one past 64 bits: %v %d", r, e)
	}
}

// P10.1: what is wrong is told, and no row beside it.
func TestParseWrong(t *testing.T) {
	for _, s := range append(ids(), noIds()...) {
		check(t, s)
		if r, e := Parse(s); r != (api.Row{}) || e != api.ErrRow {
			t.Errorf("Parse(%q): %v %d", s, r, e)
		}
	}
	for _, id := range noIds() {
		for _, s := range append(amounts, noAmounts...) {
			if r, e := Parse(id + " " + s); r != (api.Row{}) || e != api.ErrId {
				t.Errorf("Parse(%q): %v %d", id+" "+s, r, e)
			}
		}
		if line, e := Text(of(id, 5)); line != "" || e != api.ErrId {
			t.Errorf("Text of %q: %q %d", id, line, e)
		}
	}
	for _, id := range append(ids(), "b"+strings.Repeat("c", 23)) {
		for _, s := range noAmounts {
			if r, e := Parse(id + " " + s); r != (api.Row{}) || e != api.ErrAmount {
				t.Errorf("Parse(%q): %v %d", id+" "+s, r, e)
			}
		}
	}
	if line, e := Text(of("a b", 5)); line != "" || e != api.ErrId {
		t.Errorf("of an Id with a blank: %q %d", line, e)
	}
	if line, e := Text(api.Row{}); line != "" || e != api.ErrId {
		t.Errorf("of the zero row: %q %d", line, e)
	}
}

// P10.1: just a byte 32 is a blank, and the first one parts; the examples; what is wrong in two ways is told as the first.
func TestParseEdges(t *testing.T) {
	for line, want := range map[string]api.Errno{
		"": api.ErrRow, "alice": api.ErrRow, "alice\t5": api.ErrRow, "alice\u00a05": api.ErrRow, "alice\u20035": api.ErrRow, "alice\n5": api.ErrRow, "al/ice": api.ErrRow, "\xff": api.ErrRow, "250": api.ErrRow,
		" ": api.ErrId, "  ": api.ErrId, " 5": api.ErrId, " alice 5": api.ErrId, "al/ice 5": api.ErrId, "a/b c": api.ErrId, "#a 5": api.ErrId, "a\n 5": api.ErrId, "\ufeff\xff 5": api.ErrId,
		"alice 05": api.ErrAmount, "alice  5": api.ErrAmount, "alice 5 ": api.ErrAmount, "alice ": api.ErrAmount, "alice 5 6": api.ErrAmount, "5 alice": api.ErrAmount, "alice 5\n": api.ErrAmount, "alice " + pastMost: api.ErrAmount,
		"alice 250": api.OK, "250 250": api.OK, "\ufeff 5": api.OK,
	} {
		check(t, line)
		if r, e := Parse(line); e != want || (r == api.Row{}) != (want != api.OK) {
			t.Errorf("Parse(%q): %v %d, not %d", line, r, e, want)
		}
	}
	if r, e := Parse("alice 250"); r != of("alice", 250) || e != api.OK {
		t.Errorf("the example: %v %d", r, e)
	}
}

// small tells all texts of at most so many of these parts.
func small(parts []string, size int) []string {
	l, last := []string{""}, []string{""}
	for range size {
		var next []string
		for _, s := range last {
			for _, p := range parts {
				next = append(next, s+p)
			}
		}
		l, last = append(l, next...), next
	}
	return l
}

// P10.1, P10.5: all small lines; what is parsed has just that line.
func TestParseSmall(t *testing.T) {
	for _, line := range small([]string{"a", "/", " ", "0", "7", "ä", "\xff", "-", "\t"}, 5) {
		check(t, line)
		if r, e := Parse(line); e == api.OK {
			if s, e := Text(r); s != line || e != api.OK {
				t.Fatalf("%q: its row's line is %q %d", line, s, e)
			}
		}
	}
}

// P10.5: what has a line is parsed from it, and that line is one of 9, with which nothing is wrong.
func TestThereAndBack(t *testing.T) {
	chance := rand.New(rand.NewPCG(10, 5))
	l := ids()
	for range 5000 {
		r := api.Row{Id: l[chance.IntN(len(l))], Amount: api.U128{Hi: chance.Uint64() >> chance.IntN(65), Lo: chance.Uint64() >> chance.IntN(65)}}
		line, e := Text(r)
		if (e == api.OK) != isId(r.Id) {
			t.Fatalf("%v: %q %d", r, line, e)
		}
		if e != api.OK {
			continue
		}
		if line != r.Id+" "+number(r.Amount).String() {
			t.Fatalf("%v: %q", r, line)
		}
		if back, e := Parse(line); back != r || e != api.OK {
			t.Fatalf("%v: %q, and back %v %d", r, line, back, e)
		}
		want := []lines.Line{{Number: 1, Text: line, Kind: lines.LnRow}}
		if l := lines.All(line); !slices.Equal(l, want) {
			t.Fatalf("%v has the lines %v", r, l)
		}
	}
	longest := api.Row{Id: strings.Repeat("\U0001f642", 24), Amount: most}
	line, e := Text(longest)
	if n, f := lines.Check(line); utf8.RuneCountInString(line) != 64 || e != api.OK || n != 0 || f != api.OK {
		t.Errorf("the longest: %q %d %d %d", line, e, n, f)
	}
}

// P10.2: a line of each kind, with an error and without one.
func TestOf(t *testing.T) {
	for _, text := range []string{"alice 250", "alice", "al/ice 5", "alice 05", "", "#", "# a 1", "\xff", " ", strings.Repeat("z", 24) + " " + mostText} {
		for _, kind := range []uint8{lines.LnEmpty, lines.LnRemark, lines.LnRow, 3, 4, 100, 255} {
			for _, n := range []int{-1, 0, 1, 7} {
				for _, wrong := range []api.Errno{api.ErrUtf, api.ErrLine, api.ErrNil, api.ErrRow, -1, 1 << 30} {
					if r, is, e := Of(lines.Line{Number: n, Text: text, Kind: kind, Err: wrong}); r != (api.Row{}) || is || e != wrong {
						t.Errorf("%q of kind %d with %d: %v %t %d", text, kind, wrong, r, is, e)
					}
				}
				want, f := api.Row{}, api.OK
				if kind == lines.LnRow {
					want, f = parsed(text)
				}
				r, is, e := Of(lines.Line{Number: n, Text: text, Kind: kind})
				if r != want || is != (kind == lines.LnRow && f == api.OK) || e != f {
					t.Errorf("%q of kind %d: %v %t %d", text, kind, r, is, e)
				}
			}
		}
	}
	if r, is, e := Of(lines.Line{}); r != (api.Row{}) || is || e != api.OK {
		t.Errorf("of the zero line: %v %t %d", r, is, e)
	}
}

// checkAll holds All of a text against the document's words, and Of of each of its lines against All.
func checkAll(t *testing.T, text string) {
	t.Helper()
	want, n, f := told(text)
	l, number, e := All(text)
	if !slices.Equal(l, want) || number != n || e != f {
		t.Fatalf("All(%q): %v %d %d, not %v %d %d", text, l, number, e, want, n, f)
	}
	if e != api.OK && l != nil {
		t.Fatalf("All(%q): %v beside %d", text, l, e)
	}
	var each []api.Row
	for _, line := range lines.All(text) {
		r, is, e := Of(line)
		if e != api.OK {
			if line.Number != number {
				t.Fatalf("All(%q): line %d, not %d", text, number, line.Number)
			}
			return
		}
		if is {
			each = append(each, r)
		}
	}
	if number != 0 || !slices.Equal(each, l) {
		t.Fatalf("All(%q): %v %d, its lines tell %v", text, l, number, each)
	}
}

// few are lines of which one is picked for each place of a text.
var few = []string{"", "#", "# b 3", "a 1", "ä " + mostText, "a", " 1", "#\xff", "b 02", "\xff", "c 1" + strings.Repeat("0", 78), "#" + strings.Repeat("x", 79), "#" + strings.Repeat("x", 80), strings.Repeat("x", 81) + "\xff", " ", "a 1\r"}

// P10.2: texts of one line, of two, of three and of four; of all small ones.
func TestAll(t *testing.T) {
	for _, a := range few {
		checkAll(t, a)
		for _, b := range few {
			checkAll(t, a+"\n"+b)
			for _, c := range few {
				checkAll(t, a+"\n"+b+"\n"+c)
				for _, d := range few {
					checkAll(t, a+"\n"+b+"\n"+c+"\n"+d)
				}
			}
		}
	}
	for _, s := range small([]string{"a", " ", "1", "0", "#", "\n", "\xff"}, 6) {
		checkAll(t, s)
	}
}

// P10.2: texts with no row, with a byte 10 at their end and without; what is wrong first, in the midst, last, and more than once.
func TestAllEdges(t *testing.T) {
	two := []api.Row{of("b", 2), of("a", 1)}
	for text, want := range map[string][]api.Row{
		"": nil, "\n": nil, "\n\n\n": nil, "#": nil, "# a 1\n\n#": nil, "#\n": nil,
		"b 2\na 1": two, "b 2\na 1\n": two, "\n# x\n\nb 2\n#\na 1\n\n": two, "b 2\n\n#a\na 1": two,
		"b 2\nb 2\nb 3": {of("b", 2), of("b", 2), of("b", 3)},
	} {
		if l, n, e := All(text); !slices.Equal(l, want) || n != 0 || e != api.OK {
			t.Errorf("All(%q): %v %d %d", text, l, n, e)
		}
	}
	for text, want := range map[string]lines.Line{
		"b\na 1\nc 2":                      {Number: 1, Err: api.ErrRow},
		"a 1\nb\nc 2":                      {Number: 2, Err: api.ErrRow},
		"a 1\nc 2\nb":                      {Number: 3, Err: api.ErrRow},
		"a 1\n\n#\n\xff":                   {Number: 4, Err: api.ErrUtf},
		"a 1\n b\n\xff":                    {Number: 2, Err: api.ErrId},
		"a 1\n\xff\n b":                    {Number: 2, Err: api.ErrUtf},
		"a 1\n#\xff\nb":                    {Number: 2, Err: api.ErrUtf},
		"b 02\nb\n/ 1":                     {Number: 1, Err: api.ErrAmount},
		"\n\n" + strings.Repeat("a", 81):   {Number: 3, Err: api.ErrLine},
		"a " + strings.Repeat("0", 78):     {Number: 1, Err: api.ErrAmount},
		"a " + strings.Repeat("0", 79):     {Number: 1, Err: api.ErrLine},
		"/ \xff":                           {Number: 1, Err: api.ErrUtf},
		"a 1\r\nb 2\r\n":                   {Number: 1, Err: api.ErrAmount},
		strings.Repeat("a 1\n", 999) + "a": {Number: 1000, Err: api.ErrRow},
		strings.Repeat("\n", 999) + " ":    {Number: 1000, Err: api.ErrId},
		"a 1\nb 2\n ":                      {Number: 3, Err: api.ErrId},
	} {
		if l, n, e := All(text); l != nil || n != want.Number || e != want.Err {
			t.Errorf("All(%q): %v %d %d, not %d %d", text, l, n, e, want.Number, want.Err)
		}
	}
	if l, n, e := All(strings.Repeat("a 1\n", 20000)); len(l) != 20000 || n != 0 || e != api.OK {
		t.Errorf("%d rows, %d %d", len(l), n, e)
	}
}

// remarks are some that have a line, and noRemarks some that have none.
func remarks() []string {
	return []string{"x", "x y", " ", "# #", "\r", "\x00", "\ufffd", "a 1", "ä€\U0001f642", "\u2028",
		strings.Repeat("r", 78), strings.Repeat("ä", 78), strings.Repeat("\U0001f642", 78), strings.Repeat(" ", 78), strings.Repeat("\ufffd", 78)}
}

func noRemarks() []string {
	return []string{"\n", "a\n", "\na", "a\nb", "a\na 1", "\n\n", "\xff", "a\xff", "\xffa", "\xc3", "\xed\xa0\x80", "\xf4\x90\x80\x80", "a\n\xff", "\xff\n",
		strings.Repeat("r", 79), strings.Repeat("r", 80), strings.Repeat("ä", 79), strings.Repeat("\U0001f642", 79), strings.Repeat("r", 78) + "\n", strings.Repeat("r", 79) + "\xff", strings.Repeat("r", 1000), strings.Repeat("r\n", 1000), "a\n" + strings.Repeat("r", 79)}
}

// lists are some rows that may be written.
func lists() [][]api.Row {
	l := [][]api.Row{nil, {}, {of("a", 0)}, {of("b", 2), of("a", 1), of("b", 2)}, {{Id: strings.Repeat("ä", 24), Amount: most}, of("-", 1)}}
	var all []api.Row
	for _, id := range ids() {
		all = append(all, of(id, uint64(len(all))))
	}
	return append(l, all)
}

// P10.3, P10.6: what is written, by the document's words, tells just the rows; what came in stays as it was.
func TestWrite(t *testing.T) {
	for _, l := range lists() {
		for _, remark := range append(remarks(), "") {
			want := ""
			if remark != "" {
				want = "# " + remark + "\n"
			}
			for _, r := range l {
				want += r.Id + " " + number(r.Amount).String() + "\n"
			}
			was := slices.Clone(l)
			text, e := Write(l, remark)
			if text != want || e != api.OK {
				t.Errorf("Write(%v, %q): %q %d", l, remark, text, e)
			}
			if !slices.Equal(l, was) {
				t.Errorf("Write(%v, %q) left %v", was, remark, l)
			}
			if back, n, e := All(text); !slices.Equal(back, l) || n != 0 || e != api.OK {
				t.Errorf("All(%q): %v %d %d", text, back, n, e)
			}
		}
		for _, remark := range noRemarks() {
			if text, e := Write(l, remark); text != "" || e != api.ErrLine {
				t.Errorf("Write(%v, %q): %q %d", l, remark, text, e)
			}
		}
	}
	if text, e := Write([]api.Row{of("b", 2), of("a", 1)}, "x y"); text != "# x y\nb 2\na 1\n" || e != api.OK {
		t.Errorf("%q %d", text, e)
	}
	if text, e := Write(nil, ""); text != "" || e != api.OK {
		t.Errorf("of none: %q %d", text, e)
	}
}

// P10.3: a row with no Id, first, in the midst and last, alone and together with a wrong remark.
func TestWriteWrong(t *testing.T) {
	good := of("a", 1)
	for _, id := range append(noIds(), "a b", " ", "a ") {
		bad := of(id, 2)
		for _, l := range [][]api.Row{{bad}, {bad, good}, {good, bad}, {good, bad, good}, {good, good, bad}, {bad, bad}} {
			for _, remark := range append(append(remarks(), noRemarks()...), "") {
				if text, e := Write(l, remark); text != "" || e != api.ErrId {
					t.Fatalf("Write(%v, %q): %q %d", l, remark, text, e)
				}
			}
		}
	}
}

// ordered tells the rows in order, by the document's words: the least that is left, one by one, the first of those alike.
func ordered(l []api.Row) []api.Row {
	left, sorted := slices.Clone(l), []api.Row{}
	for len(left) > 0 {
		least := 0
		for i, r := range left {
			if slices.Compare([]byte(r.Id), []byte(left[least].Id)) < 0 {
				least = i
			}
		}
		sorted = append(sorted, left[least])
		left = slices.Delete(left, least, least+1)
	}
	return sorted
}

// P10.4, P10.7: rows that rise, that fall, that are of one Id, and as chance has them; sorted again they are the same, and what came in stays as it was.
func TestSort(t *testing.T) {
	chance := rand.New(rand.NewPCG(10, 4))
	some := append(append(ids(), noIds()...), "a", "b", "B", "aa", "ab", "a\x00")
	l := append(lists(),
		[]api.Row{of("a", 1), of("b", 2), of("c", 3)}, []api.Row{of("c", 1), of("b", 2), of("a", 3)},
		[]api.Row{of("a", 3), of("a", 1), of("a", 2), of("a", 3)}, []api.Row{of("b", 2), of("a", 9), of("b", 1), of("a", 8), of("", 1)})
	for n := range 300 {
		var rows []api.Row
		for range chance.IntN(n + 1) {
			rows = append(rows, of(some[chance.IntN(len(some))], uint64(len(rows))))
		}
		l = append(l, rows)
	}
	for _, rows := range l {
		was, want := slices.Clone(rows), ordered(rows)
		sorted := Sort(rows)
		if !slices.Equal(sorted, want) {
			t.Fatalf("Sort(%v): %v, not %v", rows, sorted, want)
		}
		if again := Sort(sorted); !slices.Equal(again, want) {
			t.Fatalf("Sort(%v): %v", sorted, again)
		}
		for i := range sorted {
			sorted[i] = of("zz", 99)
		}
		if !slices.Equal(rows, was) {
			t.Fatalf("Sort(%v) left %v", was, rows)
		}
	}
	if l := Sort([]api.Row{of("ä", 1), of("z", 2), of("a", 3), of("Z", 4), of("\ufffd", 5), of("\U0001f642", 6)}); !slices.Equal(l, []api.Row{of("Z", 4), of("a", 3), of("z", 2), of("ä", 1), of("\ufffd", 5), of("\U0001f642", 6)}) {
		t.Errorf("byte by byte: %v", l)
	}
}

// P10.7: rows that came in within a greater array are sorted in one of their own.
func TestSortApart(t *testing.T) {
	whole := []api.Row{of("c", 1), of("b", 2), of("a", 3), of("d", 4)}
	was := slices.Clone(whole)
	sorted := Sort(whole[:2])
	_ = append(sorted, of("x", 5))
	if !slices.Equal(whole, was) || !slices.Equal(sorted, []api.Row{of("b", 2), of("c", 1)}) {
		t.Errorf("%v, of %v", sorted, whole)
	}
}

// Of all: what is told is the caller's own, no piece of what came in.
func TestOwn(t *testing.T) {
	text := strings.Repeat("alice 250\n", 3)
	line := text[:9]
	if r, _ := Parse(line); from(r.Id, text) {
		t.Errorf("Parse tells a piece of the line")
	}
	if r, _, _ := Of(lines.Line{Text: line, Kind: lines.LnRow}); from(r.Id, text) {
		t.Errorf("Of tells a piece of the line")
	}
	l, _, _ := All(text)
	for _, r := range l {
		if from(r.Id, text) {
			t.Errorf("All tells a piece of the text")
		}
	}
	rows := []api.Row{{Id: line[:5]}, {Id: line[:3]}}
	for _, r := range Sort(rows) {
		if from(r.Id, text) {
			t.Errorf("Sort tells a piece of what came in")
		}
	}
	if s, _ := Text(rows[0]); from(s, text) {
		t.Errorf("Text tells a piece of what came in")
	}
	if s, _ := Write(nil, line); from(s, text) {
		t.Errorf("Write tells a piece of the remark")
	}
	if s, _ := Write(rows[:1], ""); from(s, text) {
		t.Errorf("Write tells a piece of an Id")
	}
}
