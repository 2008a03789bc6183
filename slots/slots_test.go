package slots_test

import (
	"bytes"
	"crypto/hmac"
	"crypto/sha256"
	"encoding/binary"
	"math"
	"math/big"
	"math/rand/v2"
	"slices"
	"strconv"
	"strings"
	"testing"
	"unicode/utf8"
	"unsafe"

	"paymaster/api"
	"paymaster/slots"
)

// most is the greatest amount.
var most = api.U128{Hi: math.MaxUint64, Lo: math.MaxUint64}

// of tells a row of a small amount.
func of(id string, n uint64) api.Row { return api.Row{Id: id, Amount: api.U128{Lo: n}} }

// at tells an account of a small balance.
func at(id string, n uint64, salt string, slot uint64) api.Account {
	return api.Account{Id: id, Balance: api.U128{Lo: n}, Salt: salt, Slot: slot}
}

// mac tells the mac by the library.
func mac(seed, text string) []byte {
	h := hmac.New(sha256.New, []byte(seed))
	h.Write([]byte(text))
	return h.Sum(nil)
}

// room tells how many slots there are, of a height that may be.
func room(height int) uint64 {
	n := uint64(1)
	for range height {
		n *= 2
	}
	return n
}

// saltOf, padOf and firstOf tell what the seed makes of an Id and of a position, by the document's words.
func saltOf(seed, id string) string { return string(mac(seed, "\x03"+id)[:16]) }

func padOf(seed string, position uint64) api.Leaf {
	return api.Leaf{Pad: true, Salt: string(mac(seed, string(binary.BigEndian.AppendUint64([]byte{4}, position)))[:16])}
}

func firstOf(seed, id string, height int) uint64 {
	return binary.BigEndian.Uint64(mac(seed, "\x05"+id)) % room(height)
}

// isId tells whether the text is an Id, by the document's words.
func isId(s string) bool {
	const letters = "abcdefghijklmnopqrstuvwxyzABCDEFGHIJKLMNOPQRSTUVWXYZ0123456789._-"
	runes := []rune(s)
	if !utf8.ValidString(s) || len(runes) == 0 || len(runes) > 24 {
		return false
	}
	return !slices.ContainsFunc(runes, func(r rune) bool { return r <= 160 && !strings.ContainsRune(letters, r) })
}

// may tells whether the accounts may be, by the document's words.
func may(l []api.Account, height int) bool {
	if height < 0 || height > 10 {
		return false
	}
	for i, a := range l {
		if !isId(a.Id) || len(a.Salt) > 32 || a.Slot >= room(height) {
			return false
		}
		if slices.ContainsFunc(l[:i], func(b api.Account) bool { return a.Id == b.Id || a.Slot == b.Slot }) {
			return false
		}
	}
	return true
}

// wrong tells what is wrong with a height, a seed and accounts, by the document's words.
func wrong(seed string, height int, l []api.Account) api.Errno {
	switch {
	case height < 0 || height > 10:
		return api.ErrHeight
	case len(seed) > 64:
		return api.ErrLong
	case !may(l, height):
		return api.ErrArg
	}
	return api.OK
}

// mayRows tells whether each row has an Id, and no two have one, by the document's words.
func mayRows(rows []api.Row) bool {
	for i, r := range rows {
		if !isId(r.Id) || slices.ContainsFunc(rows[:i], func(x api.Row) bool { return x.Id == r.Id }) {
			return false
		}
	}
	return true
}

// byId tells the rows by their Ids, byte by byte.
func byId(rows []api.Row) []api.Row {
	sorted := slices.Clone(rows)
	slices.SortFunc(sorted, func(a, b api.Row) int { return bytes.Compare([]byte(a.Id), []byte(b.Id)) })
	return sorted
}

// stands tells whether some one of the accounts stands at the slot.
func stands(l []api.Account, slot uint64) bool {
	return slices.ContainsFunc(l, func(a api.Account) bool { return a.Slot == slot })
}

// who tells where among the accounts that Id's is; below 0, if it isn't.
func who(l []api.Account, id string) int {
	return slices.IndexFunc(l, func(a api.Account) bool { return a.Id == id })
}

// placed tells the accounts of the rows, by the document's words.
func placed(seed string, height int, was []api.Account, rows []api.Row) ([]api.Account, api.Errno) {
	if e := wrong(seed, height, was); e != api.OK {
		return nil, e
	}
	if !mayRows(rows) {
		return nil, api.ErrArg
	}
	if uint64(len(rows)) > room(height) {
		return nil, api.ErrRows
	}
	var l []api.Account
	for _, r := range rows {
		if i := who(was, r.Id); i >= 0 {
			l = append(l, api.Account{Id: r.Id, Balance: r.Amount, Salt: was[i].Salt, Slot: was[i].Slot})
		}
	}
	for _, r := range byId(rows) {
		if who(was, r.Id) >= 0 {
			continue
		}
		slot := firstOf(seed, r.Id, height)
		for stands(l, slot) {
			slot = (slot + 1) % room(height)
		}
		l = append(l, api.Account{Id: r.Id, Balance: r.Amount, Salt: saltOf(seed, r.Id), Slot: slot})
	}
	slices.SortFunc(l, func(a, b api.Account) int { return bytes.Compare([]byte(a.Id), []byte(b.Id)) })
	return l, api.OK
}

// checkPlace holds Place against the document's words, and tells what it told.
func checkPlace(t *testing.T, seed string, height int, was []api.Account, rows []api.Row) ([]api.Account, api.Errno) {
	t.Helper()
	want, f := placed(seed, height, was, rows)
	l, e := slots.Place(seed, height, was, rows)
	if !slices.Equal(l, want) || e != f {
		t.Fatalf("Place(%q, %d, %.300v, %.300v): %.300v %d, not %.300v %d", seed, height, was, rows, l, e, want, f)
	}
	if e != api.OK && l != nil {
		t.Fatalf("Place(%q, %d, %.300v, %.300v): %.300v beside %d", seed, height, was, rows, l, e)
	}
	return l, e
}

// balances tells the sum of what the numbers are, without end.
func balances[T any](l []T, balance func(T) api.U128) *big.Int {
	all := new(big.Int)
	for _, x := range l {
		n := new(big.Int).SetUint64(balance(x).Hi)
		n.Lsh(n, 64)
		all.Add(all, n.Add(n, new(big.Int).SetUint64(balance(x).Lo)))
	}
	return all
}

// lists tells all rows of at most so many of the things.
func lists[T any](l []T, most int) [][]T {
	all, last := [][]T{nil}, [][]T{nil}
	for range most {
		var next [][]T
		for _, head := range last {
			for _, x := range l {
				next = append(next, append(slices.Clip(head), x))
			}
		}
		all, last = append(all, next...), next
	}
	return all
}

// many tells so many rows of unlike Ids, by these.
func many(n int) []api.Row {
	var rows []api.Row
	for i := range n {
		rows = append(rows, of("u"+strconv.Itoa(100000+i), uint64(i)))
	}
	return rows
}

// noHeights are some of which no accounts may be.
func noHeights() []int {
	return []int{-1, -2, -10, -63, -64, math.MinInt, 11, 12, 31, 32, 63, 64, 65, 128, math.MaxInt}
}

// ids are some that may be, of unlike lengths and letters.
func ids() []string {
	return []string{"a", "aa", "ab", "a-", "a.", "a_", "b", "B", "Z", "z", "0", "10", "9", "-", ".", "_", "\u00a1", "ä", "ÿ", "€", "\ufffd", "\U0001f642", "\U0010ffff", "aä", "az", strings.Repeat("y", 24), strings.Repeat("\U0001f642", 24)}
}

// noIds are some that may not be.
func noIds() []string {
	return []string{"", " ", "a b", "a ", " a", "/", "a/", "\x00", "a\n", "#", "\u00a0", "a\u0080", "\xff", "a\xff", "\xed\xa0\x80", strings.Repeat("a", 25), strings.Repeat("ä", 25)}
}

// seeds are some of at most 64 bytes.
func seeds() []string {
	return []string{"", "k", "\x00", "\xff\x00\xff", "seed", strings.Repeat("k", 63), strings.Repeat("\xff", 64)}
}

// meets tells so many Ids that have that first slot, rising.
func meets(seed string, height int, slot uint64, n int) []string {
	var l []string
	for i := 10000; len(l) < n; i++ {
		if id := "m" + strconv.Itoa(i); firstOf(seed, id, height) == slot {
			l = append(l, id)
		}
	}
	return l
}

// Of Place: the examples.
func TestExamples(t *testing.T) {
	for _, seed := range seeds() {
		if l, e := slots.Place(seed, 0, nil, []api.Row{of("a", 7)}); e != api.OK || !slices.Equal(l, []api.Account{at("a", 7, saltOf(seed, "a"), 0)}) {
			t.Errorf("%v %d", l, e)
		}
		if l, e := slots.Place(seed, 0, nil, []api.Row{of("a", 7), of("b", 1)}); l != nil || e != api.ErrRows {
			t.Errorf("%v %d", l, e)
		}
		l, e := slots.Place(seed, 2, []api.Account{at("a", 7, "own", 3)}, []api.Row{of("a", 8)})
		if e != api.OK || !slices.Equal(l, []api.Account{at("a", 8, "own", 3)}) {
			t.Errorf("%v %d", l, e)
		}
	}
}

// P12.1: all small lists, of each height that tells them apart.
func TestMaySmall(t *testing.T) {
	var few []api.Account
	for _, id := range []string{"a", "b", "A", "", "a b"} {
		for _, slot := range []uint64{0, 1, 2} {
			few = append(few, at(id, slot, "s", slot))
		}
	}
	for _, l := range lists(few, 3) {
		for _, height := range []int{-1, 0, 1, 2, 10, 11} {
			if is := slots.May(l, height); is != may(l, height) {
				t.Fatalf("May(%v, %d): %t", l, height, is)
			}
		}
	}
}

// P12.1: Ids that may be, and that may not, in each place.
func TestMayIds(t *testing.T) {
	var good []api.Account
	for i, id := range ids() {
		good = append(good, at(id, 1, "", uint64(i)))
		if !slots.May([]api.Account{at(id, 1, "", 0)}, 0) {
			t.Errorf("%q may not be", id)
		}
	}
	if !slots.May(good, 5) {
		t.Errorf("%v may not be", good)
	}
	for place := range good {
		for _, id := range noIds() {
			l := slices.Clone(good)
			l[place].Id = id
			if slots.May(l, 5) {
				t.Errorf("%q may be at %d", id, place)
			}
		}
		for other := range place {
			l := slices.Clone(good)
			l[place].Id = l[other].Id
			if slots.May(l, 5) {
				t.Errorf("one Id may be at %d and %d", place, other)
			}
			l = slices.Clone(good)
			l[place].Slot = l[other].Slot
			if slots.May(l, 5) {
				t.Errorf("one slot may be at %d and %d", place, other)
			}
		}
	}
}

// P12.1: slots and salts at their edges; of balances nothing is asked.
func TestMayEdges(t *testing.T) {
	for height := range 11 {
		last := room(height) - 1
		for slot, want := range map[uint64]bool{0: true, last / 2: true, last: true, last + 1: false, last + 2: false, 2*last + 2: false, 1 << 32: false, 1 << 63: false, math.MaxUint64 - last: false, math.MaxUint64: false} {
			if is := slots.May([]api.Account{at("a", 1, "", slot)}, height); is != want {
				t.Errorf("slot %d, height %d: %t", slot, height, is)
			}
		}
	}
	for n, want := range map[int]bool{0: true, 1: true, 16: true, 31: true, 32: true, 33: false, 64: false, 1 << 16: false} {
		for _, letter := range []string{"s", "\x00", "\xff"} {
			if is := slots.May([]api.Account{at("b", 1, "", 1), at("a", 1, strings.Repeat(letter, n), 0)}, 1); is != want {
				t.Errorf("salt of %d bytes: %t", n, is)
			}
		}
	}
	// It is bytes that are counted in salts, not runes; one salt may be twice.
	if slots.May([]api.Account{at("a", 1, strings.Repeat("ä", 17), 0)}, 0) || !slots.May([]api.Account{at("a", 1, "s", 0), at("b", 1, "s", 1)}, 1) {
		t.Error("salts")
	}
	if !slots.May([]api.Account{{Id: "a", Balance: most}, {Id: "b", Balance: most, Slot: 1}, {Id: "c", Slot: 2}}, 2) {
		t.Error("balances")
	}
}

// P12.1: of each height as many accounts as there are slots, and one more; heights that may not be.
func TestMayHeights(t *testing.T) {
	for height := range 11 {
		var l []api.Account
		for i, r := range many(int(room(height))) {
			l = append(l, at(r.Id, 1, "", uint64(i)))
		}
		slices.Reverse(l)
		if !slots.May(l, height) || !slots.May(l[1:], height) || !slots.May(nil, height) || !slots.May([]api.Account{}, height) {
			t.Errorf("%d accounts, height %d: they may not be", len(l), height)
		}
		for _, slot := range []uint64{0, room(height) - 1, room(height)} {
			if slots.May(append(slices.Clone(l), at("more", 1, "", slot)), height) {
				t.Errorf("%d accounts, height %d: they may be", len(l)+1, height)
			}
		}
	}
	for _, height := range noHeights() {
		if slots.May(nil, height) || slots.May([]api.Account{at("a", 1, "", 0)}, height) {
			t.Errorf("height %d may be", height)
		}
	}
}

// P12.1: the first account of an Id and of a slot, of whatever accounts.
func TestFindAt(t *testing.T) {
	l := []api.Account{at("b", 1, "s", 3), at("a", 2, "", 3), at("b", 3, "t", 0), at("", 4, "u", math.MaxUint64), at("/", 5, strings.Repeat("v", 40), 0), {Id: "z", Balance: most, Slot: 7}}
	for id, want := range map[string]api.Account{"b": l[0], "a": l[1], "": l[3], "/": l[4], "z": l[5]} {
		if a, is := slots.Find(l, id); a != want || !is {
			t.Errorf("Find of %q: %v %t", id, a, is)
		}
	}
	for slot, want := range map[uint64]api.Account{3: l[0], 0: l[2], math.MaxUint64: l[3], 7: l[5]} {
		if a, is := slots.At(l, slot); a != want || !is {
			t.Errorf("At of %d: %v %t", slot, a, is)
		}
	}
	for _, id := range []string{"c", "B", "bb", "b ", "\xff", "Z", "zz"} {
		if a, is := slots.Find(l, id); a != (api.Account{}) || is {
			t.Errorf("Find of %q: %v %t", id, a, is)
		}
	}
	for _, slot := range []uint64{1, 2, 4, 6, 8, 1 << 32, 1<<32 + 3, math.MaxUint64 - 1} {
		if a, is := slots.At(l, slot); a != (api.Account{}) || is {
			t.Errorf("At of %d: %v %t", slot, a, is)
		}
	}
	for _, none := range [][]api.Account{nil, {}, l[:0]} {
		a, isId := slots.Find(none, "")
		b, isSlot := slots.At(none, 0)
		if isId || isSlot || a != (api.Account{}) || b != (api.Account{}) {
			t.Errorf("of none: %v %t, %v %t", a, isId, b, isSlot)
		}
	}
}

// P12.2: all small rows behind all small accounts, of each height that tells them apart.
func TestPlaceSmall(t *testing.T) {
	var few []api.Account
	for _, id := range []string{"a", "b"} {
		for _, slot := range []uint64{0, 1, 3} {
			few = append(few, at(id, 9, "own", slot), at(id, 0, "", slot))
		}
	}
	some := []api.Row{of("b", 2), of("a", 1), of("C", 3), of("c", 4), of("/", 5)}
	for _, was := range lists(few, 2) {
		for _, rows := range lists(some, 3) {
			for _, height := range []int{-1, 0, 1, 2, 11} {
				if l, e := checkPlace(t, "k", height, was, rows); e == api.OK {
					checkFollows(t, "k", height, was, rows, l)
				}
			}
		}
	}
}

// checkFollows holds what is placed against P12.5, P12.7 and P12.8.
func checkFollows(t *testing.T, seed string, height int, was []api.Account, rows []api.Row, l []api.Account) {
	t.Helper()
	if !may(l, height) || !slots.May(l, height) || len(l) != len(rows) {
		t.Fatalf("%d rows, height %d: %v may not be", len(rows), height, l)
	}
	for i, r := range byId(rows) {
		a, before := l[i], who(was, r.Id)
		if a.Id != r.Id || a.Balance != r.Amount {
			t.Fatalf("%v, of %v", a, r)
		}
		if before >= 0 {
			if a.Slot != was[before].Slot || a.Salt != was[before].Salt {
				t.Fatalf("%v was %v", a, was[before])
			}
			continue
		}
		if a.Salt != saltOf(seed, a.Id) {
			t.Fatalf("%v has another salt", a)
		}
		for slot := firstOf(seed, a.Id, height); slot != a.Slot; slot = (slot + 1) % room(height) {
			j := slices.IndexFunc(l, func(b api.Account) bool { return b.Slot == slot })
			if j < 0 || who(was, l[j].Id) < 0 && l[j].Id >= a.Id {
				t.Fatalf("%v isn't at %d, in %v", a, slot, l)
			}
		}
	}
	checkLeaves(t, seed, height, l)
}

// checkLeaves holds Leaves against the document's words, and P12.8.
func checkLeaves(t *testing.T, seed string, height int, l []api.Account) {
	t.Helper()
	leaves, e := slots.Leaves(seed, height, l)
	if f := wrong(seed, height, l); e != f || f != api.OK && leaves != nil {
		t.Fatalf("Leaves(%q, %d, %.300v): %d leaves, %d, not %d", seed, height, l, len(leaves), e, f)
	}
	if e != api.OK {
		return
	}
	if uint64(len(leaves)) != room(height) {
		t.Fatalf("height %d: %d leaves", height, len(leaves))
	}
	for i, leaf := range leaves {
		want := padOf(seed, uint64(i))
		if j := slices.IndexFunc(l, func(a api.Account) bool { return a.Slot == uint64(i) }); j >= 0 {
			want = api.Leaf{Id: l[j].Id, Salt: l[j].Salt, Balance: l[j].Balance}
		}
		if leaf != want {
			t.Fatalf("leaf %d of %.300v: %v, not %v", i, l, leaf, want)
		}
	}
	inLeaves := balances(leaves, func(x api.Leaf) api.U128 { return x.Balance })
	if inLeaves.Cmp(balances(l, func(x api.Account) api.U128 { return x.Balance })) != 0 {
		t.Fatalf("the leaves of %.300v hold %v", l, inLeaves)
	}
}

// P12.2: of all that is wrong, the first is told.
func TestPlaceFirst(t *testing.T) {
	accounts := [][]api.Account{
		{at("a", 1, "", 4)}, {at("a", 1, "", math.MaxUint64)}, {at("a", 1, strings.Repeat("s", 33), 0)}, {at("", 1, "", 0)}, {at("a b", 1, "", 0)},
		{at("a", 1, "", 1), at("b", 1, "", 1)}, {at("a", 1, "", 1), at("a", 1, "", 2)}, {at("a", 1, "", 1), at("b", 1, "", 2), at("a", 1, "", 0)},
	}
	for wrongs := range 1 << 5 {
		is := func(bit int) bool { return wrongs>>bit&1 == 1 }
		for _, was := range accounts {
			seed, height, rows := strings.Repeat("k", 64), 2, many(4)
			var want api.Errno
			if is(4) {
				rows, want = many(5), api.ErrRows
			}
			if is(3) {
				rows, want = slices.Insert(rows, 1, rows[len(rows)-1]), api.ErrArg
			}
			if !is(2) {
				was = []api.Account{at("a", 1, strings.Repeat("s", 32), 3), at("b", 1, "", 0)}
			} else {
				want = api.ErrArg
			}
			if is(1) {
				seed, want = seed+"k", api.ErrLong
			}
			if is(0) {
				height, want = 11, api.ErrHeight
			}
			if _, e := checkPlace(t, seed, height, was, rows); e != want {
				t.Errorf("%05b: %d, not %d", wrongs, e, want)
			}
		}
	}
}

// P12.2, P12.4: heights that may not be, and seeds at their edge.
func TestPlaceHeights(t *testing.T) {
	long := strings.Repeat("k", 65)
	for _, height := range noHeights() {
		for _, seed := range []string{"", "k", long} {
			for _, was := range [][]api.Account{nil, {at("a", 1, "", 0)}, {at("", 1, "", 0)}} {
				for _, rows := range [][]api.Row{nil, many(1), many(3000), {of("", 1)}} {
					if l, e := slots.Place(seed, height, was, rows); l != nil || e != api.ErrHeight {
						t.Errorf("Place, height %d: %v %d", height, l, e)
					}
				}
				if l, e := slots.Leaves(seed, height, was); l != nil || e != api.ErrHeight {
					t.Errorf("Leaves, height %d: %v %d", height, l, e)
				}
			}
		}
	}
	for height := range 11 {
		for _, seed := range seeds() {
			l, _ := checkPlace(t, seed, height, nil, many(1))
			checkFollows(t, seed, height, nil, many(1), l)
		}
		for _, seed := range []string{long, strings.Repeat("ä", 33), strings.Repeat("k", 1<<16)} {
			if l, e := slots.Place(seed, height, nil, many(1)); l != nil || e != api.ErrLong {
				t.Errorf("Place, seed of %d bytes: %v %d", len(seed), l, e)
			}
			if l, e := slots.Leaves(seed, height, nil); l != nil || e != api.ErrLong {
				t.Errorf("Leaves, seed of %d bytes: %v %d", len(seed), l, e)
			}
		}
	}
}

// P12.2: rows without an Id, and with one twice, in each place, ahead of rows that are too many.
func TestPlaceRows(t *testing.T) {
	rows := many(12)
	was := []api.Account{at(rows[3].Id, 1, "", 5)}
	for place := range rows {
		for _, id := range noIds() {
			l := slices.Clone(rows)
			l[place].Id = id
			for _, height := range []int{0, 3, 4} {
				if _, e := checkPlace(t, "k", height, nil, l); e != api.ErrArg {
					t.Errorf("%q at %d: %d", id, place, e)
				}
			}
		}
		for other := range place {
			l := slices.Clone(rows)
			l[place].Id = l[other].Id
			for _, height := range []int{3, 4} {
				if _, e := checkPlace(t, "k", height, was, l); e != api.ErrArg {
					t.Errorf("twice at %d and %d: %d", other, place, e)
				}
			}
		}
	}
	for _, id := range ids() {
		checkPlace(t, "k", 2, nil, []api.Row{of(id, 1)})
	}
	// Ids that look alike aren't the same.
	alike := []api.Row{of("a", 1), of("A", 1), of("ä", 1), of("a\u0308", 1), of("1", 1), of("01", 1), of("\ufeffa", 1), of("а", 1)}
	if l, e := checkPlace(t, "k", 3, nil, alike); len(l) != 8 || e != api.OK {
		t.Errorf("%v %d", l, e)
	}
}

// P12.2, P12.5, P12.7: of each height as many rows as there are slots, and one more.
func TestPlaceFull(t *testing.T) {
	for height := range 11 {
		n := int(room(height))
		rows := many(n + 1)
		l, e := checkPlace(t, "k", height, nil, rows[:n])
		if len(l) != n || e != api.OK {
			t.Fatalf("height %d: %d accounts, %d", height, len(l), e)
		}
		checkFollows(t, "k", height, nil, rows[:n], l)
		if slot, is := slots.Free(l, height, 0); slot != 0 || is {
			t.Errorf("height %d: %d is free", height, slot)
		}
		for _, was := range [][]api.Account{nil, l} {
			if _, e := checkPlace(t, "k", height, was, rows); e != api.ErrRows {
				t.Errorf("height %d, %d rows: %d", height, n+1, e)
			}
		}
		// Whoever is new gets just the slot of whoever is gone.
		for _, gone := range []int{0, n / 2, n - 1} {
			next := append(slices.Delete(slices.Clone(rows[:n]), gone, gone+1), of("A", 5))
			m, e := checkPlace(t, "k", height, l, next)
			if e != api.OK || m[0].Id != "A" || m[0].Slot != l[gone].Slot {
				t.Errorf("height %d: %v in the place of %v", height, m[0], l[gone])
			}
		}
		// All are gone, and others come.
		others := []api.Row{}
		for _, r := range rows[:n] {
			others = append(others, of("v"+r.Id, 1))
		}
		m, _ := checkPlace(t, "k", height, l, others)
		checkFollows(t, "k", height, l, others, m)
		checkPlace(t, "k", height, l, nil)
		checkPlace(t, "k", height, l, []api.Row{})
	}
}

// P12.7: those of one first slot stand behind one another, round and round, by their Ids; who stays goes ahead, and a slot of whoever is gone is free.
func TestPlaceNear(t *testing.T) {
	for height := 1; height <= 10; height++ {
		last := room(height) - 1
		for _, from := range []uint64{0, last / 2, last} {
			same := meets("k", height, from, 3)
			a, b, c := of(same[0], 1), of(same[1], 2), of(same[2], 3)
			slot := func(step uint64) uint64 { return (from + step) % room(height) }
			for _, x := range []struct {
				was   []api.Account
				rows  []api.Row
				slots []uint64
			}{
				{nil, []api.Row{b, a}, []uint64{slot(0), slot(1)}},
				{[]api.Account{at(b.Id, 0, "", slot(0))}, []api.Row{a, b}, []uint64{slot(1), slot(0)}},
				{[]api.Account{at(b.Id, 0, "", slot(1))}, []api.Row{a, b}, []uint64{slot(0), slot(1)}},
				{[]api.Account{at(c.Id, 0, "", slot(0))}, []api.Row{a, b}, []uint64{slot(0), slot(1)}},
				{[]api.Account{at("x", 0, "", slot(0)), at("y", 0, "", slot(1))}, []api.Row{of("y", 1), a}, []uint64{slot(0), slot(1)}},
			} {
				l, e := checkPlace(t, "k", height, x.was, x.rows)
				for i, want := range x.slots {
					if e != api.OK || l[i].Slot != want {
						t.Fatalf("height %d, from %d: %v", height, from, l)
					}
				}
			}
			if height > 1 {
				l, _ := checkPlace(t, "k", height, nil, []api.Row{c, a, b})
				m, _ := checkPlace(t, "k", height, l, []api.Row{b, c})
				n, _ := checkPlace(t, "k", height, m, []api.Row{a, b, c})
				if l[2].Slot != slot(2) || m[0].Slot != slot(1) || m[1].Slot != slot(2) || n[0].Slot != slot(0) {
					t.Errorf("height %d, from %d: %v, %v, %v", height, from, l, m, n)
				}
			}
		}
	}
}

// picked tells some of the rows, with amounts of their own, in any order.
func picked(chance *rand.Rand, rows []api.Row, n int) []api.Row {
	l := slices.Clone(rows)
	chance.Shuffle(len(l), func(i, j int) { l[i], l[j] = l[j], l[i] })
	l = l[:n]
	for i := range l {
		l[i].Amount = api.U128{Hi: chance.Uint64() >> chance.IntN(64), Lo: chance.Uint64()}
	}
	return l
}

// P12.2, P12.5 to P12.8: one ledger behind the other, of each height, as chance has them.
func TestPlaceAny(t *testing.T) {
	chance := rand.New(rand.NewPCG(12, 2))
	var pool []api.Row
	for _, id := range ids() {
		pool = append(pool, of(id, 0))
	}
	for height := range 11 {
		n := int(room(height))
		all := append(many(n+n/2), pool...)
		for range 6 {
			seed := seeds()[chance.IntN(len(seeds()))]
			var was []api.Account
			for range 8 {
				rows := picked(chance, all, chance.IntN(n+1))
				l, e := checkPlace(t, seed, height, was, rows)
				if e != api.OK {
					t.Fatalf("height %d, %d rows: %d", height, len(rows), e)
				}
				checkFollows(t, seed, height, was, rows, l)
				checkOrders(t, chance, seed, height, was, rows, l)
				was = l
			}
		}
	}
}

// checkOrders holds P12.6 of what was placed: whatever order accounts and rows come in.
func checkOrders(t *testing.T, chance *rand.Rand, seed string, height int, was []api.Account, rows []api.Row, l []api.Account) {
	t.Helper()
	leaves, _ := slots.Leaves(seed, height, l)
	for range 2 {
		w, r, m := slices.Clone(was), slices.Clone(rows), slices.Clone(l)
		chance.Shuffle(len(w), func(i, j int) { w[i], w[j] = w[j], w[i] })
		chance.Shuffle(len(r), func(i, j int) { r[i], r[j] = r[j], r[i] })
		chance.Shuffle(len(m), func(i, j int) { m[i], m[j] = m[j], m[i] })
		if again, e := slots.Place(seed, height, w, r); !slices.Equal(again, l) || e != api.OK {
			t.Fatalf("Place of %.300v, %.300v: %.300v %d, not %.300v", w, r, again, e, l)
		}
		if again, e := slots.Leaves(seed, height, m); !slices.Equal(again, leaves) || e != api.OK {
			t.Fatalf("Leaves of %.300v: %.300v %d, not %.300v", m, again, e, leaves)
		}
	}
}

// P12.6: what is wrong is so in whatever order.
func TestOrdersWrong(t *testing.T) {
	rows := []api.Row{of("a", 1), of("b", 1), of("a", 2), of("", 1), of("c", 1)}
	was := []api.Account{at("a", 1, "", 0), at("b", 1, "", 1), at("c", 1, "", 0)}
	chance := rand.New(rand.NewPCG(12, 6))
	for range 100 {
		chance.Shuffle(len(rows), func(i, j int) { rows[i], rows[j] = rows[j], rows[i] })
		chance.Shuffle(len(was), func(i, j int) { was[i], was[j] = was[j], was[i] })
		_, e := checkPlace(t, "k", 3, nil, rows)
		_, f := checkPlace(t, "k", 3, was, nil)
		if e != api.ErrArg || f != api.ErrArg || slots.May(was, 3) {
			t.Fatalf("%v, %v: %d %d", rows, was, e, f)
		}
	}
}

// freeOf tells the first free slot, by the document's words.
func freeOf(l []api.Account, height int, from uint64) (uint64, bool) {
	slot := from % room(height)
	for range room(height) {
		if !stands(l, slot) {
			return slot, true
		}
		slot++
		if slot == room(height) {
			slot = 0
		}
	}
	return 0, false
}

// checkFree holds Free against the document's words, from each slot on, and from some far ones.
func checkFree(t *testing.T, l []api.Account, height int) {
	t.Helper()
	n := room(height)
	froms := []uint64{n, n + 1, 2*n - 1, 1<<32 + 1, 1 << 63, 1<<63 + n/2, math.MaxUint64 - n, math.MaxUint64 - 1, math.MaxUint64}
	for from := range min(n, 40) {
		froms = append(froms, from, n-1-from)
	}
	for _, from := range froms {
		want, f := freeOf(l, height, from)
		if slot, is := slots.Free(l, height, from); slot != want || is != f {
			t.Fatalf("Free(%.300v, %d, %d): %d %t, not %d %t", l, height, from, slot, is, want, f)
		}
	}
}

// P12.3: all sets of slots, of small heights, and what else accounts may be or not.
func TestFreeSmall(t *testing.T) {
	for height := range 4 {
		for set := range 1 << room(height) {
			var l []api.Account
			for slot := range room(height) {
				if set>>slot&1 == 1 {
					l = append(l, at("a", 1, "", slot))
				}
			}
			checkFree(t, l, height)
			// Slots that are there twice, and beyond the height, leave the others free; Ids and salts don't matter.
			l = append(slices.Clone(l), l...)
			checkFree(t, append(l, at("", 1, strings.Repeat("s", 50), room(height)), at("/", 1, "", math.MaxUint64), at("b", 1, "", 1<<63)), height)
		}
	}
}

// P12.3: greater heights, with none, few, all but one, all taken; heights that may not be.
func TestFree(t *testing.T) {
	chance := rand.New(rand.NewPCG(12, 3))
	for height := range 11 {
		var all []api.Account
		for slot := range room(height) {
			all = append(all, at("a"+strconv.Itoa(int(slot)), 1, "", slot))
		}
		checkFree(t, nil, height)
		checkFree(t, []api.Account{}, height)
		checkFree(t, all, height)
		checkFree(t, append(slices.Clone(all), all...), height)
		for range 6 {
			chance.Shuffle(len(all), func(i, j int) { all[i], all[j] = all[j], all[i] })
			checkFree(t, all[1:], height)
			checkFree(t, all[:chance.IntN(len(all))], height)
		}
	}
	for _, height := range noHeights() {
		for _, from := range []uint64{0, 1, math.MaxUint64} {
			for _, l := range [][]api.Account{nil, {at("a", 1, "", 0)}} {
				if slot, is := slots.Free(l, height, from); slot != 0 || is {
					t.Errorf("Free(%v, %d, %d): %d %t", l, height, from, slot, is)
				}
			}
		}
	}
}

// P12.4: an account's leaf, of any account.
func TestLeaf(t *testing.T) {
	for a, want := range map[api.Account]api.Leaf{
		{}:                   {},
		at("a", 5, "s", 2):   {Id: "a", Salt: "s", Balance: api.U128{Lo: 5}},
		at("", 0, "s", 2):    {Salt: "s"},
		at("/", 5, "", 1<<9): {Id: "/", Balance: api.U128{Lo: 5}},
		{Id: "ä", Balance: most, Salt: strings.Repeat("\xff", 40), Slot: math.MaxUint64}: {Id: "ä", Salt: strings.Repeat("\xff", 40), Balance: most},
	} {
		if l := slots.Leaf(a); l != want {
			t.Errorf("Leaf of %v: %v", a, l)
		}
	}
}

// P12.4, P12.8: no account at all, one at each slot, all small lists.
func TestLeaves(t *testing.T) {
	for height := range 11 {
		for _, seed := range seeds() {
			checkLeaves(t, seed, height, nil)
		}
		for slot := range min(room(height), 16) {
			checkLeaves(t, "k", height, []api.Account{{Id: "a", Balance: most, Salt: "own", Slot: slot}})
			checkLeaves(t, "k", height, []api.Account{at("b", 0, "", room(height)-1-slot)})
		}
		checkLeaves(t, "k", height, []api.Account{at("b", 0, "", room(height))})
	}
	few := []api.Account{at("a", 1, "s", 0), at("b", 2, "", 1), at("a", 3, "t", 2), at("c", 4, strings.Repeat("s", 32), 3), at("d", 5, strings.Repeat("s", 33), 2), at("", 6, "", 1), {Id: "e", Balance: most, Slot: 2}}
	for _, l := range lists(few, 3) {
		for _, height := range []int{-1, 0, 1, 2, 11} {
			checkLeaves(t, "k", height, l)
			checkLeaves(t, strings.Repeat("k", 65), height, l)
		}
	}
}

// Of all: what comes in stays as it was, be it within a greater array; what is told is the caller's own.
func TestKept(t *testing.T) {
	accounts := []api.Account{at("d", 4, "s", 3), at("a", 1, "t", 0), at("c", 3, "u", 2), at("z", 9, "v", 1)}
	rows := []api.Row{of("c", 3), of("b", 2), of("a", 1), of("z", 9)}
	wasAccounts, wasRows := slices.Clone(accounts), slices.Clone(rows)
	for range 3 {
		l, e := slots.Place("k", 2, accounts[:2], rows[:3])
		leaves, f := slots.Leaves("k", 2, accounts[:2])
		if want, _ := placed("k", 2, accounts[:2], rows[:3]); !slices.Equal(l, want) || e != api.OK || f != api.OK || leaves[0].Id != "a" || leaves[1] != padOf("k", 1) {
			t.Fatalf("%v %d, %v %d", l, e, leaves, f)
		}
		slots.May(accounts[:3], 2)
		slots.Find(accounts[:3], "c")
		slots.At(accounts[:3], 2)
		slots.Free(accounts[:3], 2, 0)
		for i := range l {
			l[i] = at("x", 0, "", 9)
		}
		for i := range leaves {
			leaves[i] = api.Leaf{}
		}
		_, _ = append(l, accounts...), append(leaves, api.Leaf{})
		if !slices.Equal(accounts, wasAccounts) || !slices.Equal(rows, wasRows) {
			t.Fatalf("left %v, %v", accounts, rows)
		}
	}
}

// from tells whether the text is a piece of the whole's memory.
func from(s, whole string) bool {
	at, begin := uintptr(unsafe.Pointer(unsafe.StringData(s))), uintptr(unsafe.Pointer(unsafe.StringData(whole)))
	return s != "" && begin <= at && at < begin+uintptr(len(whole))
}

// Of all: no text that is told is a piece of what came in.
func TestOwn(t *testing.T) {
	whole := strings.Clone("alice salt bob carol")
	was := []api.Account{at(whole[:5], 1, whole[6:10], 1)}
	l, _ := slots.Place("k", 2, was, []api.Row{of(whole[:5], 2), of(whole[11:14], 3), of(whole[15:], 4)})
	a, _ := slots.Find(was, "alice")
	b, _ := slots.At(was, 1)
	leaves, _ := slots.Leaves("k", 2, was)
	texts := []string{slots.Leaf(was[0]).Id, slots.Leaf(was[0]).Salt}
	for _, a := range append(l, a, b) {
		texts = append(texts, a.Id, a.Salt)
	}
	for _, leaf := range leaves {
		texts = append(texts, leaf.Id, leaf.Salt)
	}
	for _, s := range texts {
		if from(s, whole) {
			t.Errorf("%q is a piece of what came in", s)
		}
	}
}
