// Package bits is layer 1: numbers without a sign. See doc/01-bits.md.
package bits

import (
	"iter"
	mathbits "math/bits"
)

// Unsigned are the kinds of numbers without a sign. (P1.1)
type Unsigned interface {
	~uint8 | ~uint16 | ~uint32 | ~uint64 | ~uint
}

// Below: the greatest power of two below a number; false: there is none. (P1.2)
func Below(n uint64) (uint64, bool) {
	if n < 2 {
		return 0, false
	}
	return highest(n - 1), true
}

// Log: the least power of two that is not below a number, by its exponent. (P1.2)
func Log(n uint64) (int, bool) {
	if n == 0 {
		return 0, false
	}
	return mathbits.Len64(n - 1), true
}

// Ones: how many of the lowest bits are ones. (P1.3)
func Ones[T Unsigned](x T) int {
	// In 64 bits every narrower kind has a nought above its own bits, so that the count ends there at the latest.
	return mathbits.TrailingZeros64(^uint64(x))
}

// Count: how many bits are ones. (P1.3)
func Count[T Unsigned](x T) int {
	return mathbits.OnesCount64(uint64(x))
}

// Add: the sum; false: it does not fit. (P1.4)
func Add[T Unsigned](a, b T) (T, bool) {
	sum := a + b
	if sum < a { // only a sum that wrapped round is less than its parts
		return 0, false
	}
	return sum, true
}

// Left: moved so many bits up; false: it does not fit. (P1.4)
func Left[T Unsigned](x T, n int) (T, bool) {
	if n < 0 { // such a shift would panic
		return 0, false
	}
	moved := x << n
	if moved>>n != x { // a one was pushed out at the top
		return 0, false
	}
	return moved, true
}

// Fit: a number as one of another kind; false: it does not fit. (P1.4)
func Fit[B, A Unsigned](x A) (B, bool) {
	y := B(x)
	if A(y) != x { // a narrower kind drops the upper bits
		return 0, false
	}
	return y, true
}

// Powers: the powers of two whose sum a number is, the greatest first. (P1.5)
func Powers(n uint64) iter.Seq[uint64] {
	return func(yield func(uint64) bool) {
		rest := n // n itself stays, so that the next round begins anew
		for rest != 0 {
			power := highest(rest)
			if !yield(power) {
				return
			}
			rest -= power
		}
	}
}

// highest: the greatest power of two that is not above n; n is not 0.
func highest(n uint64) uint64 {
	return 1 << (mathbits.Len64(n) - 1)
}
