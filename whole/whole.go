// Package whole is layer 1: integers of up to 1024 bits. See shared/doc/01-whole.md.
package whole

import (
	"pigeonhole/api"
)

// Right says whether t is a right integer.
func Right(t api.Term) bool {
	return t.Kind == api.Int && rightLimbs(t.Limbs, t.Neg) &&
		t.Text == "" && t.Num == 0 && len(t.Items) == 0 && len(t.Tail) == 0
}

func rightLimbs(limbs []uint32, neg bool) bool {
	n := len(limbs)
	if n == 0 {
		return !neg
	}
	return n <= api.MaxLimbs && limbs[n-1] != 0
}

// Of is the integer n.
func Of(n int64) api.Term {
	size := uint64(n)
	if n < 0 {
		size = -size // wraps round to 2^63 for the lowest n, which has no int64 above 0
	}
	return signed(trimmed([]uint32{uint32(size), uint32(size >> limbBits)}), n < 0)
}

// Int is t as a number, if it is one of 64 bits.
func Int(t api.Term) (int64, bool) {
	if !Right(t) || len(t.Limbs) > 2 {
		return 0, false
	}
	size := uint64(limbAt(t.Limbs, 1))<<limbBits | uint64(limbAt(t.Limbs, 0))
	switch {
	case t.Neg && size <= 1<<63:
		return int64(-size), true
	case !t.Neg && size < 1<<63:
		return int64(size), true
	default:
		return 0, false
	}
}

// Compare is -1, 0 or 1, as a is below b, b, or above it.
func Compare(a, b api.Term) int {
	if !Right(a) || !Right(b) {
		return 0
	}
	switch {
	case a.Neg != b.Neg:
		return sign(a.Neg)
	case a.Neg:
		return compareLimbs(b.Limbs, a.Limbs)
	default:
		return compareLimbs(a.Limbs, b.Limbs)
	}
}

func sign(neg bool) int {
	if neg {
		return -1
	}
	return 1
}

// Add is the sum, if it has room.
func Add(a, b api.Term) (api.Term, bool) {
	if !Right(a) || !Right(b) {
		return api.Term{}, false
	}
	return sum(a.Limbs, a.Neg, b.Limbs, b.Neg)
}

// Sub is the difference, if it has room.
func Sub(a, b api.Term) (api.Term, bool) {
	if !Right(a) || !Right(b) {
		return api.Term{}, false
	}
	return sum(a.Limbs, a.Neg, b.Limbs, !b.Neg)
}

// sum takes signs apart from the limbs, as Sub's turned sign of 0 would be no
// right term's.
func sum(a []uint32, aNeg bool, b []uint32, bNeg bool) (api.Term, bool) {
	switch {
	case aNeg == bNeg:
		return fitting(addLimbs(a, b), aNeg)
	case compareLimbs(a, b) < 0:
		return fitting(subLimbs(b, a), bNeg)
	default:
		return fitting(subLimbs(a, b), aNeg)
	}
}

// Times is the product, if it has room.
func Times(a, b api.Term) (api.Term, bool) {
	if !Right(a) || !Right(b) {
		return api.Term{}, false
	}
	return fitting(timesLimbs(a.Limbs, b.Limbs), a.Neg != b.Neg)
}

// Div is the quotient cut towards 0, and the rest, if b is not 0.
func Div(a, b api.Term) (q, r api.Term, ok bool) {
	if !Right(a) || !Right(b) || len(b.Limbs) == 0 {
		return api.Term{}, api.Term{}, false
	}
	quotient, rest := divLimbs(a.Limbs, b.Limbs)
	return signed(quotient, a.Neg != b.Neg), signed(rest, a.Neg), true
}

// signed keeps 0 from being below 0, whatever the rule of signs says.
func signed(limbs []uint32, neg bool) api.Term {
	return api.Term{Kind: api.Int, Neg: neg && len(limbs) > 0, Limbs: limbs}
}

func fitting(limbs []uint32, neg bool) (api.Term, bool) {
	if len(limbs) > api.MaxLimbs {
		return api.Term{}, false
	}
	return signed(limbs, neg), true
}
