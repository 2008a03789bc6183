// Package u128 has numbers of 128 bits that never wrap: where there is no room for one, an error is told instead. It is layer 1: see shared/doc/01-u128.md.
package u128

import (
	"math/bits"

	"paymaster/api"
)

// size is how many bytes a number has; a half has half of them.
const size = 16

// Of tells the number n.
func Of(n uint64) api.U128 { return api.U128{Lo: n} }

// Most tells the greatest number.
func Most() api.U128 { return api.U128{Hi: 1<<64 - 1, Lo: 1<<64 - 1} }

// Add tells the sum, or ErrSum.
func Add(a, b api.U128) (api.U128, api.Errno) {
	lo, carry := bits.Add64(a.Lo, b.Lo, 0)
	hi, over := bits.Add64(a.Hi, b.Hi, carry)
	if over != 0 {
		return api.U128{}, api.ErrSum
	}
	return api.U128{Hi: hi, Lo: lo}, api.OK
}

// Sub tells the difference, or ErrSum where it is less than 0.
func Sub(a, b api.U128) (api.U128, api.Errno) {
	lo, borrow := bits.Sub64(a.Lo, b.Lo, 0)
	hi, under := bits.Sub64(a.Hi, b.Hi, borrow)
	if under != 0 {
		return api.U128{}, api.ErrSum
	}
	return api.U128{Hi: hi, Lo: lo}, api.OK
}

// Times tells the product, or ErrSum.
func Times(a api.U128, n uint64) (api.U128, api.Errno) {
	// The lower half comes first: what it has no room for goes on to the upper one.
	product := [2]uint64{a.Lo, a.Hi}
	var over uint64
	for i, half := range product {
		high, low := bits.Mul64(half, n)
		low, carry := bits.Add64(low, over, 0)
		// A product's high part is at most 2^64 - 2, so that the carry always fits.
		product[i], over = low, high+carry
	}
	if over != 0 {
		return api.U128{}, api.ErrSum
	}
	return api.U128{Hi: product[1], Lo: product[0]}, api.OK
}

// Over tells how many times n is in a, and what is left; or ErrArg where n is 0.
func Over(a api.U128, n uint64) (q api.U128, rest uint64, e api.Errno) {
	if n == 0 {
		return api.U128{}, 0, api.ErrArg
	}
	// What is left of the upper half is less than n, so that Div64 has room.
	q.Hi, rest = a.Hi/n, a.Hi%n
	q.Lo, rest = bits.Div64(rest, a.Lo, n)
	return q, rest, api.OK
}

// Cmp tells -1, 0, 1: a is less, the same, greater.
func Cmp(a, b api.U128) int {
	switch {
	case a == b:
		return 0
	case a.Hi < b.Hi || a.Hi == b.Hi && a.Lo < b.Lo:
		return -1
	}
	return 1
}

// Sum tells the sum of all, or ErrSum.
func Sum(l []api.U128) (api.U128, api.Errno) {
	// No number is below 0: where one step has no room, the sum of all has none, in whatever order.
	var sum api.U128
	for _, a := range l {
		var e api.Errno
		if sum, e = Add(sum, a); e != api.OK {
			return api.U128{}, e
		}
	}
	return sum, api.OK
}

// Bytes tells the number's bytes.
func Bytes(a api.U128) string {
	var text [size]byte
	putHalf(text[:size/2], a.Hi)
	putHalf(text[size/2:], a.Lo)
	return string(text[:])
}

// putHalf puts a half's bytes into place, the greatest first.
func putHalf(place []byte, half uint64) {
	for i := range place {
		place[i] = byte(half >> (8 * (len(place) - 1 - i)))
	}
}

// From tells the number whose bytes they are; ErrArg where they aren't as many.
func From(s string) (api.U128, api.Errno) {
	if len(s) != size {
		return api.U128{}, api.ErrArg
	}
	return api.U128{Hi: half(s[:size/2]), Lo: half(s[size/2:])}, api.OK
}

// half reads a half's bytes, the greatest first.
func half(s string) uint64 {
	var h uint64
	for i := range len(s) {
		h = h<<8 | uint64(s[i])
	}
	return h
}
