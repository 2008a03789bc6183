package decimal

import (
	"math"
	"math/big"
	"math/rand/v2"
	"strings"
	"testing"

	"paymaster/api"
	"paymaster/u128"
)

const (
	top      = 1<<64 - 1
	greatest = "340282366920938463463374607431768211455"
)

func num(hi, lo uint64) api.U128 { return api.U128{Hi: hi, Lo: lo} }

// asBig tells a number without end, so that the package is held against arithmetic that isn't its own.
func asBig(a api.U128) *big.Int {
	n := new(big.Int).SetUint64(a.Hi)
	return n.Lsh(n, 64).Or(n, new(big.Int).SetUint64(a.Lo))
}

// fit is what a number without end must be told as.
func fit(n *big.Int) (api.U128, api.Errno) {
	if n.Sign() < 0 || n.BitLen() > 128 {
		return api.U128{}, api.ErrSum
	}
	lo := new(big.Int).And(n, new(big.Int).SetUint64(top))
	return num(new(big.Int).Rsh(n, 64).Uint64(), lo.Uint64()), api.OK
}

// power is 10 to the k, without end.
func power(k int) *big.Int {
	return new(big.Int).Exp(big.NewInt(10), big.NewInt(int64(k)), nil)
}

// numbers are those about each power of ten and of two, some of digits all alike or full of noughts, and some that chance (always the same one) picks.
func numbers() []api.U128 {
	var l []api.U128
	add := func(n *big.Int) {
		for d := range int64(5) {
			if a, e := fit(new(big.Int).Add(n, big.NewInt(d-2))); e == api.OK {
				l = append(l, a)
			}
		}
	}
	for k := range 40 {
		add(power(k))
		for d := range int64(8) {
			add(new(big.Int).Mul(power(k), big.NewInt(d+2)))
			ones := new(big.Int).Quo(power(k), big.NewInt(9))
			add(ones.Mul(ones, big.NewInt(d+2)))
		}
		add(new(big.Int).Add(power(k), power(k/2)))
	}
	for k := range 129 {
		add(new(big.Int).Lsh(big.NewInt(1), uint(k)))
	}
	r := rand.New(rand.NewPCG(2, 10))
	for range 2000 {
		a := num(r.Uint64(), r.Uint64())
		n, _ := fit(new(big.Int).Rsh(asBig(a), r.UintN(129)))
		l = append(l, n)
	}
	return l
}

// texts are numbers, each with all that the examples fix of it.
func texts() []struct {
	a             api.U128
	text, grouped string
} {
	return []struct {
		a             api.U128
		text, grouped string
	}{
		{num(0, 0), "0", "0"},
		{num(0, 1), "1", "1"},
		{num(0, 9), "9", "9"},
		{num(0, 10), "10", "10"},
		{num(0, 99), "99", "99"},
		{num(0, 100), "100", "100"},
		{num(0, 999), "999", "999"},
		{num(0, 1000), "1000", "1_000"},
		{num(0, 1005), "1005", "1_005"},
		{num(0, 12345), "12345", "12_345"},
		{num(0, 123456), "123456", "123_456"},
		{num(0, 999999), "999999", "999_999"},
		{num(0, 1000000), "1000000", "1_000_000"},
		{num(0, 1234567), "1234567", "1_234_567"},
		{num(0, 50600700), "50600700", "50_600_700"},
		{num(0, 123456789), "123456789", "123_456_789"},
		{num(0, 9999999999999999999), "9999999999999999999", "9_999_999_999_999_999_999"},
		{num(0, 10000000000000000000), "10000000000000000000", "10_000_000_000_000_000_000"},
		{num(0, top), "18446744073709551615", "18_446_744_073_709_551_615"},
		{num(1, 0), "18446744073709551616", "18_446_744_073_709_551_616"},
		{num(5, 7766279631452241920), "100000000000000000000", "100_000_000_000_000_000_000"},
		{num(0x4b3b4ca85a86c47a, 0x98a224000000000), "100000000000000000000000000000000000000", "100_000_000_000_000_000_000_000_000_000_000_000_000"},
		{num(0x4b3b4ca85a86c47a, 0x98a223fffffffff), "99999999999999999999999999999999999999", "99_999_999_999_999_999_999_999_999_999_999_999_999"},
		{num(top, top-1), "340282366920938463463374607431768211454", "340_282_366_920_938_463_463_374_607_431_768_211_454"},
		{num(top, top), greatest, "340_282_366_920_938_463_463_374_607_431_768_211_455"},
	}
}

// P2.1, P2.3, P2.4
func TestExamples(t *testing.T) {
	for _, x := range texts() {
		if s := Text(x.a); s != x.text {
			t.Errorf("Text(%v): %q, not %q", x.a, s, x.text)
		}
		if a, e := Parse(x.text); a != x.a || e != api.OK {
			t.Errorf("Parse(%q): %v %d, not %v", x.text, a, e, x.a)
		}
		if n := Digits(x.a); n != len(x.text) {
			t.Errorf("Digits(%v): %d, not %d", x.a, n, len(x.text))
		}
		if s := Grouped(x.a); s != x.grouped {
			t.Errorf("Grouped(%v): %q, not %q", x.a, s, x.grouped)
		}
	}
}

// P2.1
func TestText(t *testing.T) {
	for _, a := range numbers() {
		if s := Text(a); s != asBig(a).String() {
			t.Fatalf("Text(%v): %q, not %v", a, s, asBig(a))
		}
	}
}

// P2.1
func TestParseWhatIsNoNumber(t *testing.T) {
	long := strings.Repeat("9", 5000)
	for _, s := range []string{
		"", "00", "01", "007", "0_0", "000", "0" + greatest, "0" + long, strings.Repeat("0", 39), strings.Repeat("0", 5000),
		"-1", "+1", "-0", "+0", "-", "+", " ", " 1", "1 ", "1\n", "\t1", "1\x00", "\x00", "\x001",
		"1_0", "1_000", "1,000", "1.0", ".", "1e3", "0x10", "0b1", "0o7", "x", "a", "f", "١", "1٢", "½", "１", "\xff", "1\x80",
		"/", ":", "1/", "1:", "/1", ":1", "0/", "0:", "0 ", "0x",
		greatest + " ", greatest + "x", " " + greatest, greatest[:20] + "_" + greatest[20:],
		// What isn't even a number isn't too great a one, wherever that is seen.
		"340282366920938463463374607431768211456x", "x340282366920938463463374607431768211456", long + "-", "-" + long, long + "-" + long,
	} {
		if a, e := Parse(s); a != num(0, 0) || e != api.ErrNumber {
			t.Errorf("Parse(%.50q): %v %d", s, a, e)
		}
	}
}

// P2.1
func TestParseEachByte(t *testing.T) {
	for _, ends := range [][2]string{{"", ""}, {"1", ""}, {"", "1"}, {"12", "34"}, {greatest[:38], ""}} {
		for c := range 256 {
			s := ends[0] + string([]byte{byte(c)}) + ends[1]
			n, ok := new(big.Int).SetString(s, 10)
			want, e := api.U128{}, api.ErrNumber
			if c >= '0' && c <= '9' && ok && n.String() == s {
				want, e = fit(n)
			}
			if a, f := Parse(s); a != want || f != e {
				t.Errorf("Parse(%q): %v %d, not %v %d", s, a, f, want, e)
			}
		}
	}
}

// P2.1
func TestParseWhatHasNoRoom(t *testing.T) {
	for _, s := range []string{
		"340282366920938463463374607431768211456", // the product has room, the sum none
		"340282366920938463463374607431768211459",
		"340282366920938463463374607431768211460", // the product has none
		"340282366920938463463374607431768211466",
		"340282366920938463463374607431768300000",
		"341000000000000000000000000000000000000",
		"400000000000000000000000000000000000000",
		"999999999999999999999999999999999999999",
		"1000000000000000000000000000000000000000",
		"3402823669209384634633746074317682114550",
		"115792089237316195423570985008687907853269984665640564039457584007913129639936",
		strings.Repeat("9", 5000), "1" + strings.Repeat("0", 5000),
	} {
		if a, e := Parse(s); a != num(0, 0) || e != api.ErrSum {
			t.Errorf("Parse(%.50q): %v %d", s, a, e)
		}
	}
}

// P2.2
func TestTen(t *testing.T) {
	for k := range 39 {
		want, _ := fit(power(k))
		if a, e := Ten(k); a != want || e != api.OK {
			t.Errorf("Ten(%d): %v %d, not %v", k, a, e, want)
		}
	}
	for _, k := range []int{39, 40, 64, 77, 78, 128, 256, 1 << 20, math.MaxInt32, math.MaxInt - 1, math.MaxInt} {
		if a, e := Ten(k); a != num(0, 0) || e != api.ErrSum {
			t.Errorf("Ten(%d): %v %d", k, a, e)
		}
	}
	for _, k := range []int{-1, -2, -38, -39, math.MinInt32, math.MinInt} {
		if a, e := Ten(k); a != num(0, 0) || e != api.ErrNumber {
			t.Errorf("Ten(%d): %v %d", k, a, e)
		}
	}
}

// P2.3
func TestDigits(t *testing.T) {
	for _, a := range numbers() {
		want := asBig(a).String()
		if n := Digits(a); n != len(want) {
			t.Fatalf("Digits(%s): %d", want, n)
		}
		for k := range len(want) {
			if d := Digit(a, k); d != want[len(want)-1-k]-'0' {
				t.Fatalf("Digit(%s, %d): %d", want, k, d)
			}
		}
	}
}

// P2.3
func TestDigitWhereNoneIs(t *testing.T) {
	for _, a := range []api.U128{num(0, 0), num(0, 7), num(0, 99), num(0, 999), num(0, top), num(1, 0), u128.Most()} {
		n := len(asBig(a).String())
		for _, k := range []int{n, n + 1, 39, 40, 1000, math.MaxInt32, math.MaxInt, -1, -2, -n, -39, -40, math.MinInt32, math.MinInt} {
			if d := Digit(a, k); d != 0 {
				t.Errorf("Digit(%v, %d): %d", a, k, d)
			}
		}
	}
}

// P2.4
func TestGrouped(t *testing.T) {
	for _, a := range numbers() {
		text := asBig(a).String()
		var want strings.Builder
		for i := range len(text) {
			if i > 0 && (len(text)-i)%3 == 0 {
				want.WriteByte('_')
			}
			want.WriteByte(text[i])
		}
		if s := Grouped(a); s != want.String() {
			t.Fatalf("Grouped(%s): %q, not %q", text, s, want.String())
		}
	}
}

// P2.5
func TestThereAndBack(t *testing.T) {
	for _, a := range numbers() {
		s := Text(a)
		if b, e := Parse(s); b != a || e != api.OK {
			t.Fatalf("%v, told and read: %v %d", a, b, e)
		}
		// A text that is nearly this one is another number's, or none's.
		for _, o := range []string{"0" + s, s + "0", s + " ", s[1:], s[:len(s)-1], "1" + s, Grouped(a), strings.Repeat("0", len(s))} {
			if b, e := Parse(o); e == api.OK && Text(b) != o {
				t.Fatalf("%q, read and told: %q", o, Text(b))
			} else if o != s && e == api.OK && b == a {
				t.Fatalf("%q and %q are both %v", s, o, a)
			}
		}
	}
}

// P2.5
func TestReadAndTold(t *testing.T) {
	r := rand.New(rand.NewPCG(10, 2))
	read := 0
	for range 20000 {
		s := make([]byte, r.IntN(42))
		for i := range s {
			s[i] = "0123456789"[r.IntN(10)]
		}
		if r.IntN(8) == 0 && len(s) > 0 {
			s[r.IntN(len(s))] = byte(r.UintN(256))
		}
		a, e := Parse(string(s))
		if e != api.OK {
			continue
		}
		read++
		if Text(a) != string(s) {
			t.Fatalf("%q, read and told: %q", s, Text(a))
		}
	}
	if read < 1000 {
		t.Errorf("just %d were read", read)
	}
}

// P2.6
func TestOrder(t *testing.T) {
	l := numbers()
	l = l[len(l)-700:]
	for _, x := range texts() {
		l = append(l, x.a)
	}
	told := make([]string, len(l))
	for i, a := range l {
		told[i] = Text(a)
	}
	for i, a := range l {
		for k, b := range l {
			less := len(told[i]) < len(told[k]) || len(told[i]) == len(told[k]) && told[i] < told[k]
			if less != (u128.Cmp(a, b) < 0) {
				t.Fatalf("%v and %v: %q and %q", a, b, told[i], told[k])
			}
		}
	}
}

// P2.7
func TestPlaces(t *testing.T) {
	for _, a := range numbers() {
		var sum api.U128
		for k := range Digits(a) {
			ten, e := Ten(k)
			if e != api.OK {
				t.Fatalf("Ten(%d): %d", k, e)
			}
			part, e := u128.Times(ten, uint64(Digit(a, k)))
			if e != api.OK {
				t.Fatalf("digit %d of %v, times ten to its place: %d", k, a, e)
			}
			if sum, e = u128.Add(sum, part); e != api.OK {
				t.Fatalf("digits of %v to %d: %d", a, k, e)
			}
		}
		if sum != a {
			t.Fatalf("%v's digits come to %v", a, sum)
		}
	}
}

// P2.1, P2.4: what is told is the caller's own; to ask twice tells the same.
func TestAskedTwice(t *testing.T) {
	for _, x := range texts() {
		first, grouped := digits(x.a), Grouped(x.a)
		if cap(first) != len(first) {
			t.Errorf("%v: room of %d behind %d digits", x.a, cap(first), len(first))
		}
		for i := range first {
			first[i] = 'x'
		}
		if Text(x.a) != x.text || Grouped(x.a) != grouped {
			t.Errorf("%v: another text, asked again", x.a)
		}
	}
}
