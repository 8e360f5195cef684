// Package charge represents an amount of bytes and file handles by one complex
// number: the real part counts bytes, the imaginary part counts handles.
package charge

import (
	"math"

	"buttery/api"
)

// Of returns the charge with the given parts, or false if one is out of range.
func Of(bytes, handles int) (complex128, bool) {
	if !inRange(bytes) || !inRange(handles) {
		return 0, false
	}
	return complex(float64(bytes), float64(handles)), true
}

// Parts returns the bytes and handles of c, or false if c is not a charge.
func Parts(c complex128) (int, int, bool) {
	if !valid(c) {
		return 0, 0, false
	}
	return int(real(c)), int(imag(c)), true
}

// Sum adds charges part by part, up to MaxPart; invalid ones count as 0.
func Sum(l []complex128) complex128 {
	var total complex128
	for _, c := range l {
		// Limiting every partial sum keeps it exact however long l is.
		total = limited(total + orZero(c))
	}
	return total
}

// Less subtracts b from a part by part, down to 0; an invalid one counts as 0.
func Less(a, b complex128) complex128 {
	return limited(orZero(a) - orZero(b))
}

// Times multiplies both parts of c by n, up to MaxPart; a negative n counts as 0.
func Times(c complex128, n int) complex128 {
	// No factor above MaxPart gives another result, and up to it the conversion
	// is exact. Products that a float64 rounds are far above MaxPart anyway.
	factor := min(max(n, 0), api.MaxPart)
	return limited(orZero(c) * complex(float64(factor), 0))
}

// Fits reports whether c and room are charges and no part of c exceeds room's.
func Fits(c, room complex128) bool {
	return valid(c) && valid(room) && real(c) <= real(room) && imag(c) <= imag(room)
}

func inRange(n int) bool { return 0 <= n && n <= api.MaxPart }

func valid(c complex128) bool {
	return validPart(real(c)) && validPart(imag(c))
}

// A NaN fails both comparisons, and -0 passes as 0.
func validPart(x float64) bool {
	return 0 <= x && x <= api.MaxPart && x == math.Trunc(x)
}

func orZero(c complex128) complex128 {
	if !valid(c) {
		return 0
	}
	return c
}

func limited(c complex128) complex128 {
	return complex(limitedPart(real(c)), limitedPart(imag(c)))
}

// The builtin max orders -0 below 0, so that no -0 is left in a result.
func limitedPart(x float64) float64 {
	return min(max(x, 0), api.MaxPart)
}
