// Package field is layer 1: the field of 256 elements, which are bytes. See shared/doc/01-field.md.
package field

import "braidwork/api"

const (
	// size is how many elements there are.
	size = 256

	// order is how many elements other than 0 there are: the powers of 3 begin again behind so many.
	order = size - 1

	// rest is what x^8 is, less the polynomial x^8 + x^4 + x^3 + x + 1.
	rest = 0x1b
)

// tables are the powers of 3, by their exponents, and the exponents, by their elements (0 has none).
type tables struct {
	powers    [order]byte
	exponents [size]byte
}

// build makes the tables anew for each call that asks, so that nothing is kept between calls.
func build() tables {
	var t tables
	exponent, power := 0, byte(1)
round:
	t.powers[exponent] = power
	t.exponents[power] = byte(exponent)
	power = Add(power, timesX(power))
	exponent++
	if exponent < order {
		goto round
	}
	return t
}

// timesX is the product of a and x, which is the element 2.
func timesX(a byte) byte { return a<<1 ^ rest*(a>>7) }

// Add is the sum of a and b.
func Add(a, b byte) byte { return a ^ b }

// Mul is the product of a and b.
//
// It goes without the tables: to build them takes far longer than the eight steps.
func Mul(a, b byte) byte {
	product := byte(0)
	for i := range 8 {
		product = Add(product, a*(b>>i&1))
		a = timesX(a)
	}
	return product
}

// Inv is the inverse of a, which is not 0.
func Inv(a byte) (byte, api.Errno) {
	if a == 0 {
		return 0, api.ErrArg
	}
	t := build()
	return t.powers[(order-int(t.exponents[a]))%order], api.OK
}

// Div is the product of a and the inverse of b, which is not 0.
func Div(a, b byte) (byte, api.Errno) {
	inverse, e := Inv(b)
	if e != api.OK {
		return 0, e
	}
	return Mul(a, inverse), api.OK
}

// Pow is the n-th power of a.
func Pow(a byte, n int) (byte, api.Errno) {
	if n < 0 {
		return 0, api.ErrArg
	}
	if n == 0 {
		return 1, api.OK
	}
	if a == 0 {
		return 0, api.OK
	}
	t := build()
	// n goes down below order ahead of the product, which a great n would carry beyond an int.
	return t.powers[int(t.exponents[a])*(n%order)%order], api.OK
}

// Exp is the n-th power of 3, of n from 0 to 254.
func Exp(n int) (byte, api.Errno) {
	if n < 0 || n >= order {
		return 0, api.ErrArg
	}
	return build().powers[n], api.OK
}

// Log is the exponent of a, which is not 0.
func Log(a byte) (int, api.Errno) {
	if a == 0 {
		return 0, api.ErrArg
	}
	return int(build().exponents[a]), api.OK
}
