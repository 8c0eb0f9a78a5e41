package wide

import (
	"math"
	"math/bits"
)

// divide returns the quotient of a and b, which is not 0, and the remainder.
func divide(a, b parts) (quotient, rest parts) {
	if len(a) < len(b) {
		return nil, a
	}
	if len(b) == 1 {
		quotient = append(parts(nil), a...)
		part := divideByPart(quotient, b[0])
		return trim(quotient), trim(parts{part})
	}
	return divideLong(a, b)
}

// divideByPart replaces n by its quotient, which may end with zeros, and returns the remainder.
func divideByPart(n parts, divisor uint64) (rest uint64) {
	for i := range len(n) {
		place := len(n) - 1 - i
		n[place], rest = bits.Div64(rest, n[place], divisor)
	}
	return rest
}

// divideLong divides digit by digit, as by hand, for b with two digits or more. Both numbers are shifted until the first bit of b is set: then the first two digits of b tell each digit of the quotient but for an error of 1.
func divideLong(a, b parts) (quotient, rest parts) {
	shift := bits.LeadingZeros64(b[len(b)-1])
	divisor := shiftLeft(b, shift)[:len(b)]
	rest = shiftLeft(a, shift)
	quotient = make(parts, len(a)-len(b)+1)
	for i := range len(quotient) {
		place := len(quotient) - 1 - i
		quotient[place] = reduce(rest[place:place+len(b)+1], divisor)
	}
	return trim(quotient), trim(shiftRight(rest, shift))
}

// reduce replaces window, which has one digit more than divisor, by its remainder, and returns the quotient, which has one digit.
func reduce(window, divisor parts) uint64 {
	size := len(divisor)
	digit := guess(window[size-2:], divisor[size-2:])
	borrowed := subtractMultiple(window[:size], divisor, digit)
	if borrowed > window[size] { // the guess was too great by 1
		digit--
		addMultiple(window[:size], divisor, 1)
	}
	window[size] = 0
	return digit
}

// guess returns the digit by which the first two digits of the divisor go into the first three ones of the window: the right one, or one more.
func guess(window, divisor parts) uint64 {
	if window[2] >= divisor[1] {
		return math.MaxUint64 // no digit is greater
	}
	digit, rest := bits.Div64(window[2], window[1], divisor[1])
	for {
		high, low := bits.Mul64(digit, divisor[0])
		if high < rest || high == rest && low <= window[0] {
			return digit
		}
		digit--
		var carry uint64
		rest, carry = bits.Add64(rest, divisor[1], 0)
		if carry != 0 { // the rest exceeds what divisor[0] can take away
			return digit
		}
	}
}

// shiftLeft returns n times 2^shift, for a shift of less than a digit, with one digit more than n has.
func shiftLeft(n parts, shift int) parts {
	shifted := make(parts, len(n)+1)
	for i := range len(n) {
		shifted[i] |= n[i] << shift
		shifted[i+1] = n[i] >> (partBits - shift)
	}
	return shifted
}

// shiftRight undoes shiftLeft.
func shiftRight(n parts, shift int) parts {
	shifted := make(parts, len(n))
	for i := range len(n) {
		shifted[i] = n[i]>>shift | n.at(i+1)<<(partBits-shift)
	}
	return shifted
}
