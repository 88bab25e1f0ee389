package whole

import "cmp"

// Rows of limbs here are sizes without a sign, the lowest limb first. Those
// that are reckoned with have no nought at the end; what comes of them has none
// either, and is new memory, so that no term shares limbs with another one.

const (
	limbBits = 32
	base     = 1 << limbBits
)

// limbAt lets rows of unlike lengths be gone through side by side.
func limbAt(limbs []uint32, i int) uint32 {
	if i < len(limbs) {
		return limbs[i]
	}
	return 0
}

// trimmed answers nil for 0, so that 0 looks the same wherever it comes from.
func trimmed(limbs []uint32) []uint32 {
	for k := range len(limbs) {
		n := len(limbs) - k
		if limbs[n-1] != 0 {
			return limbs[:n]
		}
	}
	return nil
}

func compareLimbs(a, b []uint32) int {
	if len(a) != len(b) {
		return cmp.Compare(len(a), len(b))
	}
	for k := range len(a) {
		i := len(a) - 1 - k
		if a[i] != b[i] {
			return cmp.Compare(a[i], b[i])
		}
	}
	return 0
}

// carrying answers a closure for the limbs of by * x + y, from the lowest one
// on: it hands the carry from one call to the next. No call overflows, as
// (base-1)*(base-1) + 2*(base-1) is below 2^64.
func carrying(by, carry uint32) func(x, y uint32) uint32 {
	kept := uint64(carry)
	return func(x, y uint32) uint32 {
		kept += uint64(by)*uint64(x) + uint64(y)
		low := uint32(kept)
		kept >>= limbBits
		return low
	}
}

// borrowing answers a closure for the limbs of x - y, from the lowest one on.
func borrowing() func(x, y uint32) uint32 {
	borrow := uint64(0)
	return func(x, y uint32) uint32 {
		less := uint64(x) - uint64(y) - borrow
		borrow = less >> 63 // wrapped round: only then is the highest bit set
		return uint32(less)
	}
}

// dividing answers a closure for the limbs of x / by, from the highest one on,
// each with what is left over so far.
func dividing(by uint32) func(x uint32) (digit, rest uint32) {
	left := uint64(0)
	return func(x uint32) (digit, rest uint32) {
		left = left<<limbBits | uint64(x)
		digit = uint32(left / uint64(by))
		left %= uint64(by)
		return digit, uint32(left)
	}
}

func addLimbs(a, b []uint32) []uint32 {
	out := make([]uint32, max(len(a), len(b))+1)
	next := carrying(1, 0)
	for i := range len(out) {
		out[i] = next(limbAt(a, i), limbAt(b, i))
	}
	return trimmed(out)
}

// subLimbs wants an a that is not below b.
func subLimbs(a, b []uint32) []uint32 {
	out := make([]uint32, len(a))
	next := borrowing()
	for i := range len(a) {
		out[i] = next(a[i], limbAt(b, i))
	}
	return trimmed(out)
}

// scaled is a times by, and more.
func scaled(a []uint32, by, more uint32) []uint32 {
	out := make([]uint32, len(a)+1)
	next := carrying(by, more)
	for i := range len(out) {
		out[i] = next(limbAt(a, i), 0)
	}
	return trimmed(out)
}

func timesLimbs(a, b []uint32) []uint32 {
	out := make([]uint32, len(a)+len(b))
	for i := range len(a) {
		next := carrying(a[i], 0)
		for j := range len(b) + 1 {
			out[i+j] = next(limbAt(b, j), out[i+j])
		}
	}
	return trimmed(out)
}

// divByLimb wants a by that is not 0.
func divByLimb(a []uint32, by uint32) (quotient []uint32, rest uint32) {
	quotient = make([]uint32, len(a))
	next := dividing(by)
	for k := range len(a) {
		i := len(a) - 1 - k
		quotient[i], rest = next(a[i])
	}
	return trimmed(quotient), rest
}

// divLimbs wants a b that is not 0. Both are made greater by the same factor,
// so that b's highest limb is at least half of base: a digit that is guessed
// from the highest limbs alone is then too great by 2 at most.
func divLimbs(a, b []uint32) (quotient, rest []uint32) {
	factor := uint32(base / (uint64(b[len(b)-1]) + 1))
	a, b = scaled(a, factor, 0), scaled(b, factor, 0)
	quotient = make([]uint32, len(a))
	for k := range len(a) {
		i := len(a) - 1 - k
		rest = trimmed(append([]uint32{a[i]}, rest...))
		quotient[i], rest = takeDigit(rest, b)
	}
	rest, _ = divByLimb(rest, factor)
	return trimmed(quotient), rest
}

// takeDigit is how often b is in rest, which is below base times b, and what
// is then left of it.
func takeDigit(rest, b []uint32) (digit uint32, left []uint32) {
	n := len(b)
	highest := uint64(limbAt(rest, n))<<limbBits | uint64(limbAt(rest, n-1))
	digit = uint32(min(highest/uint64(b[n-1]), base-1))
	part := scaled(b, digit, 0)
	for compareLimbs(part, rest) > 0 {
		digit--
		part = subLimbs(part, b)
	}
	return digit, subLimbs(rest, part)
}
