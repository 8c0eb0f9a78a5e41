package wide

import (
	"math/bits"

	"cocycle/api"
)

// partBytes is the number of bytes of a part, and partBits that of its bits.
const (
	partBytes = 8
	partBits  = 8 * partBytes
)

// parts is a natural number: its digits to the base 2^64, the least significant one first, and the last one not 0 (no digits for 0).
type parts []uint64

// significant returns the bytes of a Mag from the first one that is not 0.
func significant(mag string) string {
	zeros := 0
	for zeros < len(mag) && mag[zeros] == 0 {
		zeros++
	}
	return mag[zeros:]
}

// partOf returns the number with these bytes, which are at most partBytes.
func partOf(mag string) uint64 {
	var part uint64
	for i := range len(mag) {
		part = part<<8 | uint64(mag[i])
	}
	return part
}

// partsOf returns the number with these bytes; it may begin with zeros.
func partsOf(mag string) parts {
	mag = significant(mag)
	n := make(parts, (len(mag)+partBytes-1)/partBytes)
	for i := range len(n) {
		end := len(mag) - partBytes*i
		n[i] = partOf(mag[max(end-partBytes, 0):end])
	}
	return n
}

// signed returns n, or -n, if neg is set.
func signed(neg bool, n parts) api.Wide {
	mag := make([]byte, partBytes*len(n))
	for i := range len(mag) {
		mag[len(mag)-1-i] = byte(n[i/partBytes] >> (8 * (i % partBytes)))
	}
	return api.Wide{Neg: neg && len(n) > 0, Mag: significant(string(mag))}
}

// trim returns n without the zeros at its end.
func trim(n parts) parts {
	for len(n) > 0 && n[len(n)-1] == 0 {
		n = n[:len(n)-1]
	}
	return n
}

// at returns digit i, which is 0 beyond the last one.
func (n parts) at(i int) uint64 {
	if i < len(n) {
		return n[i]
	}
	return 0
}

func sum(a, b parts) parts {
	size := max(len(a), len(b))
	total := make(parts, size+1)
	var carry uint64
	for i := range size {
		total[i], carry = bits.Add64(a.at(i), b.at(i), carry)
	}
	total[size] = carry
	return trim(total)
}

// difference returns a - b, for a that is not less than b.
func difference(a, b parts) parts {
	rest := make(parts, len(a))
	var borrow uint64
	for i := range len(a) {
		rest[i], borrow = bits.Sub64(a[i], b.at(i), borrow)
	}
	return trim(rest)
}

func product(a, b parts) parts {
	total := make(parts, len(a)+len(b))
	for i := range len(a) {
		total[i+len(b)] = addMultiple(total[i:i+len(b)], b, a[i])
	}
	return trim(total)
}

// addMultiple adds factor times b to total, which has as many digits as b, and returns the digit that is carried.
func addMultiple(total, b parts, factor uint64) uint64 {
	var carried uint64
	for i := range len(b) {
		high, low := bits.Mul64(b[i], factor)
		var carry uint64
		low, carry = bits.Add64(low, carried, 0)
		high += carry
		total[i], carry = bits.Add64(total[i], low, 0)
		carried = high + carry
	}
	return carried
}

// subtractMultiple subtracts factor times b from total, which has as many digits as b, and returns the digit that is borrowed.
func subtractMultiple(total, b parts, factor uint64) uint64 {
	var borrowed uint64
	for i := range len(b) {
		high, low := bits.Mul64(b[i], factor)
		var carry uint64
		low, carry = bits.Add64(low, borrowed, 0)
		high += carry
		total[i], carry = bits.Sub64(total[i], low, 0)
		borrowed = high + carry
	}
	return borrowed
}
