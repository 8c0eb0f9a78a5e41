package matrix

import (
	"math"
	"math/bits"

	"cocycle/api"
	"cocycle/wide"
)

// greatestPrime is the first one that primes visits; it is below 2^31.
const greatestPrime = 1<<31 - 1

// primes visits the odd prime numbers below 2^31, the greatest ones first. There are more than 10^8 of them, and their product has 3 * 10^9 bits: a call needs no more.
func primes(yield func(prime uint64) bool) {
	if !yield(greatestPrime) { // it need not be looked for, and often suffices
		return
	}
	for n := uint64(greatestPrime - 2); n > 2; n -= 2 {
		if isPrime(n) && !yield(n) {
			return
		}
	}
}

// isPrime reports whether an odd number from 3 to 2^31 is prime. These bases are witnesses against all others below 3215031751 (Jaeschke); trying divisors would take longer than inverting a small matrix.
func isPrime(n uint64) bool {
	for _, base := range [4]uint64{2, 3, 5, 7} {
		if base%n != 0 && isWitness(base, n) {
			return false
		}
	}
	return true
}

// isWitness reports whether powers of base prove that an odd n below 2^32 is not prime (the test of Miller and Rabin): for a prime, the power n - 1 is 1, and only 1 and -1 have the square 1.
func isWitness(base, n uint64) bool {
	halvings := bits.TrailingZeros64(n - 1)
	x := power(base, (n-1)>>halvings, n)
	if x == 1 {
		return false
	}
	for range halvings {
		if x == n-1 {
			return false
		}
		x = x * x % n
	}
	return true
}

// power returns a power of base modulo n, which is below 2^32.
func power(base, exponent, n uint64) uint64 {
	result := uint64(1)
	for ; exponent > 0; exponent /= 2 {
		if exponent%2 == 1 {
			result = result * base % n
		}
		base = base * base % n
	}
	return result
}

// modulus computes with the numbers from 0 to prime - 1, modulo a prime number below 2^31.
type modulus struct{ prime, reciprocal uint64 }

func newModulus(prime uint64) modulus {
	return modulus{prime, math.MaxUint64 / prime}
}

// rest returns n modulo the prime. A division would take several times as long as both products.
func (m modulus) rest(n uint64) uint64 {
	quotient, _ := bits.Mul64(n, m.reciprocal) // the right one, or one less
	rest := n - quotient*m.prime
	if rest >= m.prime {
		rest -= m.prime
	}
	return rest
}

// residue returns a modulo the prime.
func (m modulus) residue(a api.Wide) uint64 {
	_, rest, _ := wide.Quo(a, wide.From(int(m.prime)))
	n, _ := wide.Int(rest)
	return uint64(n)
}

// balance returns the integer with the least absolute value that is n modulo the prime.
func (m modulus) balance(n uint64) api.Wide {
	if n > m.prime/2 {
		return wide.From(int(n) - int(m.prime))
	}
	return wide.From(int(n))
}

// inverse returns the number whose product with n, which is not 0, is 1.
func (m modulus) inverse(n uint64) uint64 {
	_, x, _ := wide.Gcd(wide.From(int(n)), wide.From(int(m.prime)))
	return m.residue(x)
}

// scale multiplies a row by factor.
func (m modulus) scale(row []uint64, factor uint64) {
	for j, x := range row {
		row[j] = m.rest(factor * x)
	}
}

// addMultiple adds factor times other to row.
func (m modulus) addMultiple(row, other []uint64, factor uint64) {
	for j, x := range other {
		row[j] = m.rest(row[j] + factor*x)
	}
}

// reduce turns a table with at least as many columns as rows, A and behind it B, into the unit matrix and the product of the inverse of A and B, and returns the determinant of A. If that is 0, it stops on the way.
func (m modulus) reduce(t table[uint64]) (det uint64) {
	det = 1
	for k, top := range t.each {
		m.fillPivot(t, k)
		pivot := top[k]
		if pivot == 0 {
			return 0
		}
		det = m.rest(det * pivot)
		m.scale(top[k:], m.inverse(pivot))
		for i, row := range t.each {
			if i != k && row[k] != 0 {
				m.addMultiple(row[k:], top[k:], m.prime-row[k])
			}
		}
	}
	return det
}

// fillPivot makes element k of row k different from 0 by adding a multiple of a later row, if there is one for this: unlike an exchange, that changes no determinant.
func (m modulus) fillPivot(t table[uint64], k int) {
	top := t.row(k)
	for i := k + 1; top[k] == 0 && i < t.rows; i++ {
		m.addMultiple(top[k:], t.row(i)[k:], t.row(i)[k])
	}
}
