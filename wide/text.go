package wide

import (
	"math/bits"
	"strings"

	"cocycle/api"
)

// Decimal digits are read and written in blocks, as many at once as fit into a part.
const (
	blockDigits = 19
	blockBase   = 10_000_000_000_000_000_000 // 10^blockDigits
)

// Text returns a in decimal.
func Text(a api.Wide) string {
	rest := partsOf(a.Mag)
	if len(rest) == 0 {
		return "0"
	}
	blocks := len(rest) + len(rest)/blockDigits + 1 // 20 digits suffice for a part
	buffer := make([]byte, 1+blocks*blockDigits)
	start := len(buffer)
	for len(rest) > 0 {
		block := divideByPart(rest, blockBase)
		rest = trim(rest)
		start -= blockDigits
		// The capacity ends with the block: the digits behind it are out of reach.
		writeBlock(buffer[start:start+blockDigits:start+blockDigits], block)
	}
	for buffer[start] == '0' {
		start++
	}
	if a.Neg {
		start--
		buffer[start] = '-'
	}
	return string(buffer[start:])
}

// writeBlock fills a slice with the digits of n, and zeros in front of them.
func writeBlock(digits []byte, n uint64) {
	for i := range len(digits) {
		digits[len(digits)-1-i] = byte('0' + n%10)
		n /= 10
	}
}

// Parse returns the number that s denotes, and true, if s consists of digits, with at most one - in front.
func Parse(s string) (api.Wide, bool) {
	digits, neg := strings.CutPrefix(s, "-")
	if !isDecimal(digits) {
		return api.Wide{}, false
	}
	digits = strings.TrimLeft(digits, "0") // or long rows of zeros would cost as much as other digits
	n := make(parts, (len(digits)+blockDigits-1)/blockDigits)
	for i := range len(n) {
		size := (len(digits)-1)%blockDigits + 1 // only the first block may be short
		n[i] = timesPlus(n[:i], blockBase, readBlock(digits[:size]))
		digits = digits[size:]
	}
	return signed(neg, trim(n)), true
}

func isDecimal(s string) bool {
	for i := range len(s) {
		if s[i] < '0' || s[i] > '9' {
			return false
		}
	}
	return s != ""
}

// readBlock returns the number with these digits, which are at most blockDigits.
func readBlock(digits string) uint64 {
	var n uint64
	for i := range len(digits) {
		n = 10*n + uint64(digits[i]-'0')
	}
	return n
}

// timesPlus replaces n by factor times n, plus a part, and returns the digit that is carried.
func timesPlus(n parts, factor, part uint64) uint64 {
	for i := range len(n) {
		high, low := bits.Mul64(n[i], factor)
		var carry uint64
		n[i], carry = bits.Add64(low, part, 0)
		part = high + carry
	}
	return part
}
