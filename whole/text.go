package whole

import (
	"bytes"
	"slices"
	"strings"

	"pigeonhole/api"
)

// The greatest power of ten that is a limb: so many digits are taken off at once.
const (
	chunk       = 1000000000
	chunkDigits = 9
)

// Text is t's decimal digits.
func Text(t api.Term) string {
	if !Right(t) {
		return ""
	}
	if len(t.Limbs) == 0 {
		return "0"
	}
	out := bytes.TrimRight(digitsUp(t.Limbs), "0")
	if t.Neg {
		out = append(out, '-')
	}
	slices.Reverse(out)
	return string(out)
}

// digitsUp has the lowest digit first, and may have noughts at the end.
func digitsUp(limbs []uint32) []byte {
	var out []byte
	for len(limbs) > 0 {
		var low uint32
		limbs, low = divByLimb(limbs, chunk)
		for range chunkDigits {
			out = append(out, '0'+byte(low%10))
			low /= 10
		}
	}
	return out
}

// Parse is the integer that s is the text of, if it is one's.
func Parse(s string) (api.Term, bool) {
	digits, neg := strings.CutPrefix(s, "-")
	if digits == "" || digits[0] == '0' && s != "0" {
		return api.Term{}, false
	}
	var limbs []uint32
	for i := range len(digits) {
		c := digits[i]
		// Asked at each digit, so that a long text costs no more than a short one.
		if c < '0' || c > '9' || len(limbs) > api.MaxLimbs {
			return api.Term{}, false
		}
		limbs = scaled(limbs, 10, uint32(c-'0'))
	}
	return fitting(limbs, neg)
}
