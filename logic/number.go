package logic

import (
	"math"

	"lattice/api"
)

// Add tells a + b.
func Add(a, b int64) (int64, api.Errno) {
	// Only two of one sign can leave the range, and then the sum has wrapped round to the other side of a.
	if n := a + b; (n < a) == (b < 0) {
		return n, api.OK
	}
	return 0, api.ErrWide
}

// Sub tells a - b.
func Sub(a, b int64) (int64, api.Errno) {
	if n := a - b; (n > a) == (b < 0) {
		return n, api.OK
	}
	return 0, api.ErrWide
}

// Mul tells a times b.
func Mul(a, b int64) (int64, api.Errno) {
	n, wide := times(size(a), size(b))
	switch {
	case wide:
	case (a < 0) == (b < 0) && n <= math.MaxInt64:
		return int64(n), api.OK
	case (a < 0) != (b < 0) && n <= 1<<63:
		return -int64(n), api.OK
	}
	return 0, api.ErrWide
}

// Div tells the quotient of a and b, towards nought.
func Div(a, b int64) (int64, api.Errno) {
	if b == 0 {
		return 0, api.ErrZero
	}
	if a == math.MinInt64 && b == -1 {
		return 0, api.ErrWide
	}
	return a / b, api.OK
}

// Mod tells the rest of a and b, which has the sign of a.
func Mod(a, b int64) (int64, api.Errno) {
	if b == 0 {
		return 0, api.ErrZero
	}
	return a % b, api.OK
}

// Neg tells minus a.
func Neg(a int64) (n int64, e api.Errno) {
	switch n = a; n {
	case math.MinInt64:
		n, e = 0, api.ErrWide
		fallthrough
	default:
		n = -n
	}
	return n, e
}

// Abs tells a without its sign.
func Abs(a int64) (n int64, e api.Errno) {
	switch n = a; {
	case n == math.MinInt64:
		n, e = 0, api.ErrWide
		fallthrough
	case n < 0:
		n = -n
	}
	return n, e
}

// Sum tells the sum of all; what comes out in between may be wider than 64 bits.
func Sum(l ...int64) (int64, api.Errno) {
	// The upper half has room for as many numbers as can be handed in, the lower one keeps 32 bits.
	var halves [2]int64
	grow := func(n int64) {
		halves[1] += n & math.MaxUint32
		halves[0] += n>>32 + halves[1]>>32
		halves[1] &= math.MaxUint32
	}
	for _, n := range l {
		grow(n)
	}
	if halves[0] < math.MinInt32 || halves[0] > math.MaxInt32 {
		return 0, api.ErrWide
	}
	return halves[0]<<32 | halves[1], api.OK
}

// Range tells from, from + step, and so on, as far as they are not beyond to.
func Range(from, to, step int64) ([]int64, api.Errno) {
	if step == 0 {
		return nil, api.ErrArg
	}
	var out []int64
numbers:
	for n := from; ; {
		switch {
		case step > 0 && n > to, step < 0 && n < to:
			break numbers
		case len(out) == api.MaxRows:
			return nil, api.ErrLong
		}
		out = append(out, n)
		next, e := Add(n, step)
		if e != api.OK {
			// What is beyond 64 bits is beyond to.
			break numbers
		}
		n = next
	}
	return out, api.OK
}

// size is how far a number is from nought; that of the least one fits too.
func size(a int64) uint64 {
	if a < 0 {
		return -uint64(a)
	}
	return uint64(a)
}

// times multiplies by halves of 32 bits, and tells whether 64 bits are too few.
func times(a, b uint64) (n uint64, wide bool) {
	lowA, lowB := a&math.MaxUint32, b&math.MaxUint32
	a >>= 32
	b >>= 32
	if a != 0 && b != 0 {
		return 0, true
	}
	// One of both is nought here, so the sum of the two products is the other one.
	across := a*lowB + b*lowA
	if across > math.MaxUint32 {
		return 0, true
	}
	across <<= 32
	n = across + lowA*lowB
	return n, n < across
}
