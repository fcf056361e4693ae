// Package num: complex numbers (chapter 1).
package num

import (
	"cmp"
	"math"
)

const (
	signBit  = 1 << 63
	oneNaN   = 0x7FF8000000000000 // stands for the bits of every NaN
	maxWhole = 1 << 53            // beyond it floats leave whole numbers out
)

// Bits answers the bits of the real and of the imaginary part, with one
// pattern for all NaNs.
func Bits(z complex128) (uint64, uint64) {
	return partBits(real(z)), partBits(imag(z))
}

// partBits hides which NaN it is: which one an operation answers hangs on the
// machine.
func partBits(x float64) uint64 {
	if math.IsNaN(x) {
		return oneNaN
	}
	return math.Float64bits(x)
}

// Same tells whether a and b have the same Bits.
func Same(a, b complex128) bool {
	aReal, aImag := Bits(a)
	bReal, bImag := Bits(b)
	return aReal == bReal && aImag == bImag
}

// Order answers -1, 0 or 1: by the real parts, then by the imaginary parts.
func Order(a, b complex128) int {
	aReal, aImag := Bits(a)
	bReal, bImag := Bits(b)
	if byReal := cmp.Compare(rank(aReal), rank(bReal)); byReal != 0 {
		return byReal
	}
	return cmp.Compare(rank(aImag), rank(bImag))
}

// rank turns the bits of a part into a number that rises as the part does.
// Bits of floats above nought rise already, with NaN behind infinity; those
// below nought fall, and belong ahead of all others.
func rank(bits uint64) uint64 {
	if bits&signBit != 0 {
		return ^bits
	}
	return bits | signBit
}

// Add answers the sum, part by part.
func Add(a, b complex128) complex128 {
	return complex(real(a)+real(b), imag(a)+imag(b))
}

// Sub answers the difference, part by part.
func Sub(a, b complex128) complex128 {
	return complex(real(a)-real(b), imag(a)-imag(b))
}

// Mul answers the product. Each one of its products is converted, since the
// language lets a product that is not be fused with the sum behind it.
func Mul(a, b complex128) complex128 {
	realReal := float64(real(a) * real(b))
	imagImag := float64(imag(a) * imag(b))
	realImag := float64(real(a) * imag(b))
	imagReal := float64(imag(a) * real(b))
	return complex(realReal-imagImag, realImag+imagReal)
}

// Conj answers z with the other sign of its imaginary part. The sign is turned
// as a bit, so that a nought and a NaN turn too.
func Conj(z complex128) complex128 {
	turned := math.Float64bits(imag(z)) ^ signBit
	return complex(real(z), math.Float64frombits(turned))
}

// Whole answers n as a number, and nought of an n that is out of bounds.
func Whole(n int) complex128 {
	// As int64, since the bounds must fit where an int has 32 bits.
	wide := int64(n)
	if wide < -maxWhole || wide > maxWhole {
		return 0
	}
	return complex(float64(wide), 0)
}

// Int answers the n whose Whole z is, and whether there is one.
func Int(z complex128) (int, bool) {
	x := real(z)
	// What lies outside, or is a NaN, must not be converted: to what integer
	// hangs on the machine.
	if !(x >= -maxWhole && x <= maxWhole) {
		return 0, false
	}
	n := int(int64(x))
	if !Same(Whole(n), z) {
		return 0, false
	}
	return n, true
}
