package lines

import (
	"math"
	"math/rand/v2"
	"slices"
	"strings"
	"testing"
	"unsafe"

	"paymaster/api"
)

// greatest is the greatest rune.
const greatest = 0x10ffff

// isRune tells whether the number is a rune, by the document's words.
func isRune(n int) bool { return n >= 0 && n <= greatest && (n < 0xd800 || n > 0xdfff) }

// spread tells a number's bytes as UTF-8 would have them in so many, whether these are the shortest form or not, and the number a rune or not.
func spread(n, size int) string {
	if size == 1 {
		return string([]byte{byte(n)})
	}
	b := make([]byte, size)
	for i := size - 1; i > 0; i-- {
		b[i] = 0x80 | byte(n&0x3f)
		n >>= 6
	}
	b[0] = byte(0xff<<(8-size)) | byte(n)
	return string(b)
}

// encoded tells a rune's bytes by the document's words: of the shortest form.
func encoded(n int) string {
	switch {
	case n < 1<<7:
		return spread(n, 1)
	case n < 1<<11:
		return spread(n, 2)
	case n < 1<<16:
		return spread(n, 3)
	}
	return spread(n, 4)
}

// first tells the rune that the text begins with, and how many bytes it has; no bytes, where there is none.
func first(s string) (rune, int) {
	for size := 1; size <= 4 && size <= len(s); size++ {
		n := int(s[0])
		if size > 1 {
			n &= 0x7f >> size
		}
		for _, b := range []byte(s[1:size]) {
			n = n<<6 | int(b&0x3f)
		}
		if isRune(n) && encoded(n) == s[:size] {
			return rune(n), size
		}
	}
	return 0, 0
}

// decoded tells a text's runes by the document's words, and whether all its bytes are runes'.
func decoded(s string) ([]rune, bool) {
	var l []rune
	for s != "" {
		r, size := first(s)
		if size == 0 {
			return nil, false
		}
		l, s = append(l, r), s[size:]
	}
	return l, true
}

// expected tells a text's lines by the document's words.
func expected(text string) []Line {
	l := []Line{{Number: 1}}
	for _, b := range []byte(text) {
		if b == 10 {
			l = append(l, Line{Number: len(l) + 1})
			continue
		}
		l[len(l)-1].Text += string([]byte{b})
	}
	for i := range l {
		if s := l[i].Text; s != "" && s[0] == '#' {
			l[i].Kind = LnRemark
		} else if s != "" {
			l[i].Kind = LnRow
		}
		if runes, is := decoded(l[i].Text); !is {
			l[i].Err = api.ErrUtf
		} else if len(runes) > 80 {
			l[i].Err = api.ErrLine
		}
	}
	return l
}

// noRunes are bytes that are no rune's: cut off, not of the shortest form, of a surrogate, of more than the greatest rune, none at all.
func noRunes() []string {
	l := []string{"\xff", "\xfe", "\x80", "\xbf", "\xc2", "\xc3", "\xe2\x82", "\xe2", "\xf0\x9f\x99", "\xf0\x9f", "\xf0", "\xc3\xc3\xa4", "\xa4\xc3", "\xef\xbf", "\xef\xbf\xbe\xbd"}
	for _, short := range []int{0, 'a', '#', 10, 0x7f, 0x80, 0x7ff, 0x800, 0xfffd, 0xffff} {
		for size := len(encoded(short)) + 1; size <= 4; size++ {
			l = append(l, spread(short, size))
		}
	}
	for _, n := range []int{0xd800, 0xdbff, 0xdc00, 0xdfff} {
		l = append(l, spread(n, 3), spread(n, 4))
	}
	for _, n := range []int{greatest + 1, 0x13ffff, 0x1fffff} {
		l = append(l, spread(n, 4))
	}
	return append(l, spread(greatest+1, 5), spread(0x3ffffff, 5), spread('a', 5), spread(0x7fffffff, 6))
}

// edges are runes at the edges of what may be, and of how many bytes they have.
var edges = []int{0, 1, 9, 11, 13, ' ', '#', 'a', 0x7f, 0x80, 0xa0, 0x7ff, 0x800, 0x2028, 0xd7ff, 0xe000, 0xfeff, 0xfffc, 0xfffd, 0xfffe, 0xffff, 0x10000, 0x1f642, greatest - 1, greatest}

// single are lines of each kind: those that may be, and those with which something is wrong.
func single() []string {
	l := []string{"", "#", "# a", "#\x00", " #", "a#", "a", "alice 250", " ", "\r", "\x00", "##", "\ufeff#", "\xff#", "#\xff", "\ufffd", "\ufffd\ufffd"}
	for _, n := range edges {
		s := encoded(n)
		l = append(l, s, strings.Repeat(s, 79), strings.Repeat(s, 80), strings.Repeat(s, 81), "#"+strings.Repeat(s, 79), "#"+strings.Repeat(s, 80))
	}
	for _, s := range noRunes() {
		if !strings.Contains(s, "\n") {
			l = append(l, s, "a"+s, s+"a", "€"+s+"€", strings.Repeat("a", 79)+s, strings.Repeat("a", 80)+s, strings.Repeat("a", 81)+s, s+strings.Repeat("a", 81), strings.Repeat("\ufffd", 200)+s+strings.Repeat("€", 200))
		}
	}
	return append(l, strings.Repeat("aé€🙂", 20), strings.Repeat("aé€🙂", 20)+"a", strings.Repeat("x", 10000))
}

// few are lines of which one is picked for each place of a text.
var few = []string{"", "a", "#b", "\xff", "\xe2\x82", "\xac", strings.Repeat("x", 80), strings.Repeat("x", 81), strings.Repeat("€", 80), strings.Repeat("€", 81), strings.Repeat("x", 81) + "\xff", "\ufffd"}

// several are texts of some lines.
func several() []string {
	l := single()
	for _, a := range few {
		for _, b := range few {
			l = append(l, a+"\n"+b)
			for _, c := range few {
				l = append(l, a+"\n"+b+"\n"+c)
			}
		}
	}
	for n := range 6 {
		l = append(l, strings.Repeat("\n", n), strings.Repeat("a\n", n), strings.Repeat("\n#", n), strings.Repeat("\n\xff", n))
	}
	return l
}

// small are all texts of at most so many of these parts.
func small(parts []string, most int) []string {
	l, last := []string{""}, []string{""}
	for range most {
		var next []string
		for _, s := range last {
			for _, p := range parts {
				next = append(next, s+p)
			}
		}
		l, last = append(l, next...), next
	}
	return l
}

// texts are all on which calls are held against the document's words.
func texts() []string {
	return append(several(), small([]string{"a", "#", "\n", "\xff", "\xe2", "\x82\xac"}, 5)...)
}

// P9.1: all lines are told, each with its number, its text, what it is, and what is wrong with it.
func TestAll(t *testing.T) {
	for _, s := range texts() {
		want := expected(s)
		if l := All(s); !slices.Equal(l, want) {
			t.Fatalf("All(%q): %v, not %v", s, l, want)
		}
		if l := slices.Collect(Each(s)); !slices.Equal(l, want) {
			t.Fatalf("Each(%q): %v, not %v", s, l, want)
		}
	}
	long := All(strings.Repeat("a\n", 70000))
	for i, x := range long {
		if x.Number != i+1 {
			t.Fatalf("line %d has the number %d", i+1, x.Number)
		}
	}
	if len(long) != 70001 || long[70000] != (Line{Number: 70001}) {
		t.Errorf("%d lines", len(long))
	}
}

// P9.1: the empty text is one empty line; a byte 10 at the end has an empty line behind it; nothing else parts lines.
func TestAllEdges(t *testing.T) {
	for s, want := range map[string][]Line{
		"":         {{1, "", LnEmpty, api.OK}},
		"\n":       {{1, "", LnEmpty, api.OK}, {2, "", LnEmpty, api.OK}},
		"\n\n":     {{1, "", LnEmpty, api.OK}, {2, "", LnEmpty, api.OK}, {3, "", LnEmpty, api.OK}},
		"a\n":      {{1, "a", LnRow, api.OK}, {2, "", LnEmpty, api.OK}},
		"a\r\n#":   {{1, "a\r", LnRow, api.OK}, {2, "#", LnRemark, api.OK}},
		"a\n#b":    {{1, "a", LnRow, api.OK}, {2, "#b", LnRemark, api.OK}},
		"a\u2028b": {{1, "a\u2028b", LnRow, api.OK}},
		"a\u0085b": {{1, "a\u0085b", LnRow, api.OK}},
		"\xe2\n#":  {{1, "\xe2", LnRow, api.ErrUtf}, {2, "#", LnRemark, api.OK}},
		"#\xff\na": {{1, "#\xff", LnRemark, api.ErrUtf}, {2, "a", LnRow, api.OK}},
	} {
		if l := All(s); !slices.Equal(l, want) {
			t.Errorf("All(%q): %v, not %v", s, l, want)
		}
	}
}

// P9.1: a walk that is broken off ends there; each walk begins with the first line.
func TestEachBrokenOff(t *testing.T) {
	for _, s := range []string{"", "\n", "a", "a\nb\n#c\n\n\xff\nd", "a\nb\n"} {
		want := expected(s)
		walk := Each(s)
		for end := range len(want) + 1 {
			var l []Line
			walk(func(x Line) bool {
				l = append(l, x)
				return len(l) <= end
			})
			if !slices.Equal(l, want[:min(end+1, len(want))]) {
				t.Errorf("%q, broken off behind %d: %v", s, end, l)
			}
		}
		for x := range walk {
			for y := range walk {
				if y != want[y.Number-1] {
					t.Errorf("%q: %v in a walk within a walk", s, y)
				}
				if y.Number == x.Number {
					break
				}
			}
			if x != want[x.Number-1] {
				t.Errorf("%q: %v around a walk", s, x)
			}
		}
		walk(nil)
	}
}

// P9.1: what a line is hangs on its first byte alone.
func TestKind(t *testing.T) {
	if LnEmpty != 0 || LnRemark != 1 || LnRow != 2 {
		t.Errorf("kinds: %d %d %d", LnEmpty, LnRemark, LnRow)
	}
	if k := Kind(""); k != LnEmpty {
		t.Errorf("of the empty line: %d", k)
	}
	for b := range 256 {
		want := LnRow
		if b == '#' {
			want = LnRemark
		}
		for _, behind := range []string{"", "#", "a", " ", "\xff", "\n", "\n#", strings.Repeat("x", 81)} {
			if s := string([]byte{byte(b)}) + behind; Kind(s) != want {
				t.Errorf("Kind(%q): %d, not %d", s, Kind(s), want)
			}
		}
	}
}

// P9.2: the first line with which something is wrong, and what.
func TestCheck(t *testing.T) {
	for _, s := range texts() {
		number, e := 0, api.OK
		for _, x := range expected(s) {
			if x.Err != api.OK {
				number, e = x.Number, x.Err
				break
			}
		}
		if n, f := Check(s); n != number || f != e {
			t.Fatalf("Check(%q): %d %d, not %d %d", s, n, f, number, e)
		}
	}
}

// P9.2: in the first, a middle and the last line, and in more than one.
func TestCheckEdges(t *testing.T) {
	fits, long := strings.Repeat("x", 80), strings.Repeat("x", 81)
	wide, wider := strings.Repeat("🙂", 80), strings.Repeat("🙂", 81)
	for s, want := range map[string]Line{
		"":                                 {},
		"\n":                               {},
		fits:                               {},
		wide:                               {},
		fits + "\n" + wide + "\n#":         {},
		"\ufffd":                           {},
		"\U0010ffff":                       {},
		long:                               {Number: 1, Err: api.ErrLine},
		wider:                              {Number: 1, Err: api.ErrLine},
		"#" + fits:                         {Number: 1, Err: api.ErrLine},
		long + "\xff":                      {Number: 1, Err: api.ErrUtf},
		"\xff" + long:                      {Number: 1, Err: api.ErrUtf},
		fits + "\xff":                      {Number: 1, Err: api.ErrUtf},
		"#\xff":                            {Number: 1, Err: api.ErrUtf},
		"\xff\na\nb":                       {Number: 1, Err: api.ErrUtf},
		"a\n\xff\nb":                       {Number: 2, Err: api.ErrUtf},
		"a\nb\n\xff":                       {Number: 3, Err: api.ErrUtf},
		"a\n\n" + long:                     {Number: 3, Err: api.ErrLine},
		long + "\n\xff":                    {Number: 1, Err: api.ErrLine},
		"\xff\n" + long:                    {Number: 1, Err: api.ErrUtf},
		"a\n" + long + "\n\xff\n" + "b":    {Number: 2, Err: api.ErrLine},
		"a\n\xff\n" + long + "\n" + "b":    {Number: 2, Err: api.ErrUtf},
		"\n\n\xe2\x82\n\xac":               {Number: 3, Err: api.ErrUtf},
		strings.Repeat("\n", 999) + "\xff": {Number: 1000, Err: api.ErrUtf},
	} {
		if n, e := Check(s); n != want.Number || e != want.Err {
			t.Errorf("Check(%q): %d %d, not %d %d", s, n, e, want.Number, want.Err)
		}
	}
}

// P9.3: each rune is told of its bytes, and the bytes of it; numbers that are no rune have none.
func TestEachRune(t *testing.T) {
	for n := -1000; n <= greatest+1000; n++ {
		if !isRune(n) {
			if s, e := Text([]rune{rune(n)}); s != "" || e != api.ErrUtf {
				t.Fatalf("Text of %d: %q %d", n, s, e)
			}
			continue
		}
		s := encoded(n)
		if l, e := Runes(s); len(l) != 1 || l[0] != rune(n) || e != api.OK {
			t.Fatalf("Runes(%q): %v %d", s, l, e)
		}
		if u, e := Text([]rune{rune(n)}); u != s || e != api.OK {
			t.Fatalf("Text of %d: %q %d", n, u, e)
		}
	}
}

// P9.3: bytes that are no rune's are told so wherever they stand; all bytes of one and two, those of three and four that lie at an edge.
func TestRunes(t *testing.T) {
	l := append(texts(), noRunes()...)
	for a := range 256 {
		l = append(l, string([]byte{byte(a)}))
		for b := range 256 {
			l = append(l, string([]byte{byte(a), byte(b)}))
		}
	}
	heads := []byte{0, '#', 0x7f, 0x80, 0xbf, 0xc0, 0xc1, 0xc2, 0xdf, 0xe0, 0xe1, 0xec, 0xed, 0xee, 0xef, 0xf0, 0xf1, 0xf3, 0xf4, 0xf5, 0xf7, 0xf8, 0xff}
	tails := []byte{'a', 0x7f, 0x80, 0x8f, 0x90, 0x9f, 0xa0, 0xbd, 0xbf, 0xc0, 0xff}
	for _, a := range heads {
		for _, b := range tails {
			for _, c := range tails {
				l = append(l, string([]byte{a, b, c}))
				for _, d := range tails {
					l = append(l, string([]byte{a, b, c, d}))
				}
			}
		}
	}
	for _, s := range l {
		want, is := decoded(s)
		e := api.OK
		if !is {
			want, e = nil, api.ErrUtf
		}
		if l, f := Runes(s); !slices.Equal(l, want) || f != e {
			t.Fatalf("Runes(%q): %v %d, not %v %d", s, l, f, want, e)
		}
	}
	for _, s := range noRunes() {
		for _, s := range []string{s, "a" + s, s + "a", "\ufffd" + s, s + "\ufffd", "a\n" + s + "\nb"} {
			if l, e := Runes(s); l != nil || e != api.ErrUtf {
				t.Errorf("Runes(%q): %v %d", s, l, e)
			}
		}
	}
	if l, e := Runes(""); len(l) != 0 || e != api.OK {
		t.Errorf("of no runes: %v %d", l, e)
	}
}

// P9.3: a number that is no rune, wherever it stands among others.
func TestText(t *testing.T) {
	for _, n := range []rune{-1, -2, math.MinInt32, 0xd800, 0xd801, 0xdbff, 0xdc00, 0xdfff, greatest + 1, 0x1fffff, math.MaxInt32} {
		for _, l := range [][]rune{{n}, {n, 'a'}, {'a', n}, {'a', n, 'b'}, {0xfffd, n}, {n, n}, {0xd83d, n}} {
			if s, e := Text(l); s != "" || e != api.ErrUtf {
				t.Errorf("Text(%v): %q %d", l, s, e)
			}
		}
	}
	for _, l := range [][]rune{nil, {}} {
		if s, e := Text(l); s != "" || e != api.OK {
			t.Errorf("of none: %q %d", s, e)
		}
	}
	if s, e := Text([]rune{'a', 10, 0, 0xe4, 0x20ac, 0xfffd, 0x1f642}); s != "a\n\x00\xc3\xa4\xe2\x82\xac\xef\xbf\xbd\xf0\x9f\x99\x82" || e != api.OK {
		t.Errorf("%q %d", s, e)
	}
}

// P9.4: lines are joined by bytes 10, whatever else they are; one that has a byte 10 isn't.
func TestJoin(t *testing.T) {
	for _, x := range []struct {
		l    []string
		want string
	}{
		{nil, ""}, {[]string{}, ""}, {[]string{""}, ""}, {[]string{"", ""}, "\n"}, {[]string{"", "", ""}, "\n\n"},
		{[]string{"a"}, "a"}, {[]string{"a", ""}, "a\n"}, {[]string{"", "a"}, "\na"}, {[]string{"a", "", "b"}, "a\n\nb"},
		{[]string{"#", "\xff", "\r", strings.Repeat("x", 81)}, "#\n\xff\n\r\n" + strings.Repeat("x", 81)},
	} {
		if s, e := Join(x.l); s != x.want || e != api.OK {
			t.Errorf("Join(%q): %q %d, not %q", x.l, s, e, x.want)
		}
	}
	for _, bad := range []string{"\n", "a\n", "\na", "a\nb", "\n\n", "\xff\n", strings.Repeat("x", 200) + "\n"} {
		for _, l := range [][]string{{bad}, {bad, "a"}, {"a", bad}, {"a", bad, "b"}, {"", bad}, {bad, bad}} {
			if s, e := Join(l); s != "" || e != api.ErrArg {
				t.Errorf("Join(%q): %q %d", l, s, e)
			}
		}
	}
}

// parts tells the texts of all lines.
func parts(l []Line) []string {
	var all []string
	for _, x := range l {
		all = append(all, x.Text)
	}
	return all
}

// P9.5: a text's lines, joined, are it; joined lines are a text's lines.
func TestThereAndBack(t *testing.T) {
	for _, s := range texts() {
		if u, e := Join(parts(All(s))); u != s || e != api.OK {
			t.Fatalf("the lines of %q, joined: %q %d", s, u, e)
		}
	}
	chance := rand.New(rand.NewPCG(9, 5))
	from := single()
	for n := range 300 {
		l := make([]string, n%20+1)
		for i := range l {
			l[i] = from[chance.IntN(len(from))]
		}
		s, e := Join(l)
		if e != api.OK || !slices.Equal(parts(All(s)), l) {
			t.Fatalf("%q, joined: %d, the lines %q", l, e, parts(All(s)))
		}
	}
}

// P9.5: a text's runes have its text; runes' text has these.
func TestRunesThereAndBack(t *testing.T) {
	for _, s := range texts() {
		l, e := Runes(s)
		if e != api.OK {
			continue
		}
		if u, e := Text(l); u != s || e != api.OK {
			t.Fatalf("the runes of %q have %q %d", s, u, e)
		}
	}
	chance := rand.New(rand.NewPCG(9, 3))
	for n := range 300 {
		l := make([]rune, n)
		for i := range l {
			for l[i] = -1; !isRune(int(l[i])); {
				l[i] = rune(chance.IntN(1 << chance.IntN(22)))
			}
		}
		s, e := Text(l)
		if e != api.OK {
			t.Fatalf("Text(%v): %d", l, e)
		}
		if back, e := Runes(s); !slices.Equal(back, l) || e != api.OK {
			t.Fatalf("the text of %v has %v %d", l, back, e)
		}
	}
}

// P9.6: what is wrong with a line is so whatever stands around it.
func TestOneByOne(t *testing.T) {
	for _, s := range single() {
		alone := All(s)
		if len(alone) != 1 {
			t.Fatalf("%q: %d lines", s, len(alone))
		}
		for _, a := range few {
			for _, b := range few {
				l := All(a + "\n" + s + "\n" + b)
				if want := (Line{2, s, alone[0].Kind, alone[0].Err}); len(l) != 3 || l[1] != want {
					t.Fatalf("%q between %q and %q: %v, alone %v", s, a, b, l, alone)
				}
			}
		}
	}
}

// The chapter's examples.
func TestExamples(t *testing.T) {
	if l := All("a\n#b"); !slices.Equal(l, []Line{{1, "a", LnRow, api.OK}, {2, "#b", LnRemark, api.OK}}) {
		t.Errorf("%v", l)
	}
	if l := All(""); !slices.Equal(l, []Line{{1, "", LnEmpty, api.OK}}) {
		t.Errorf("%v", l)
	}
	for s, want := range map[string]api.Errno{strings.Repeat("l", 80): api.OK, strings.Repeat("l", 81): api.ErrLine, strings.Repeat("l", 81) + "\xff": api.ErrUtf} {
		if l := All(s); len(l) != 1 || l[0].Err != want {
			t.Errorf("%q: %v", s, l)
		}
	}
}

// from tells whether a text stands in another one's memory.
func from(s, whole string) bool {
	at, first := uintptr(unsafe.Pointer(unsafe.StringData(s))), uintptr(unsafe.Pointer(unsafe.StringData(whole)))
	return s != "" && at >= first && at < first+uintptr(len(whole))
}

// The rules of all layers: what is handed in stays as it is, and what is told is the caller's own.
func TestOwn(t *testing.T) {
	text := strings.Repeat("alice 250\n#remark\n\n\xff\n", 3)
	for x := range Each(text) {
		if from(x.Text, text) {
			t.Errorf("line %d has the caller's memory", x.Number)
		}
	}
	for _, x := range All(text[:9]) {
		if from(x.Text, text) {
			t.Error("the one line has the caller's memory")
		}
	}
	for _, l := range [][]string{{text[:9]}, {text[:9], ""}, {"", text[:9]}, {text[:9], text[10:17]}} {
		was := slices.Clone(l)
		s, _ := Join(l)
		if from(s, text) || s == "" {
			t.Errorf("Join(%q) has the caller's memory", l)
		}
		if !slices.Equal(l, was) {
			t.Errorf("Join has changed %q to %q", was, l)
		}
	}
	for _, l := range [][]rune{{'a', 'b', 0x20ac}, {'a', -1, 'b'}} {
		was := slices.Clone(l)
		Text(l)
		if !slices.Equal(l, was) {
			t.Errorf("Text has changed %v to %v", was, l)
		}
	}
	one, _ := Runes("abc")
	other, _ := Runes("abc")
	one[0] = 'x'
	if other[0] != 'a' {
		t.Error("two lists of runes share memory")
	}
	all, again := All(text), All(text)
	all[0].Text = "x"
	if again[0].Text != "alice 250" {
		t.Error("two lists of lines share memory")
	}
}
