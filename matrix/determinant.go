package matrix

import (
	"cocycle/api"
	"cocycle/wide"
)

// Det returns the determinant of a, and true, if a is right and has as many rows as columns. It is found modulo prime numbers, because the integers of an elimination would grow much longer than their residues.
func Det(a api.Mat) (api.Wide, bool) {
	if !isSquare(a) {
		return api.Wide{}, false
	}
	limit := wide.Mul(wide.From(4), squareOfBound(a))
	det := newEstimate(1)
	for prime := range primes {
		m := newModulus(prime)
		residues := table[uint64]{a.Rows, a.Cols, convert(a.E, m.residue)}
		det.refine(m, []uint64{m.reduce(residues)})
		// Nothing is left of the limit as soon as the modulus exceeds the double of the bound.
		limit, _, _ = wide.Quo(limit, wide.From(int(prime*prime)))
		if wide.Sign(limit) == 0 {
			break
		}
	}
	return det.values[0], true
}

func isSquare(a api.Mat) bool {
	return Right(a) && a.Rows == a.Cols
}

// squareOfBound returns a number that the square of the determinant does not exceed: the product of the squares of the lengths of the rows (Hadamard's inequality).
func squareOfBound(a api.Mat) api.Wide {
	bound := wide.From(1)
	for _, row := range tableOf(a).each {
		var length api.Wide
		for _, x := range row {
			length = wide.Add(length, wide.Mul(x, x))
		}
		bound = wide.Mul(bound, length)
	}
	return bound
}

// Inverse returns the inverse of a, and true, if a is right, and its determinant is 1 or -1. The inverse is found modulo prime numbers, and proved by its product with a. This ends: if there is an inverse, finitely many primes tell it; if there is none, the determinant is neither 1 nor -1 modulo all primes but finitely many.
func Inverse(a api.Mat) (api.Mat, bool) {
	if !isSquare(a) {
		return api.Mat{}, false
	}
	inverse := newEstimate(len(a.E))
	for prime := range primes {
		m := newModulus(prime)
		residues, det := m.invert(a)
		if det != 1 && det != prime-1 {
			break
		}
		if inverse.refine(m, residues) {
			continue // more primes may tell more
		}
		candidate := api.Mat{Rows: a.Rows, Cols: a.Cols, E: inverse.values}
		if isInverse(a, candidate) {
			return candidate, true
		}
	}
	return api.Mat{}, false
}

// invert returns the elements of the inverse of a, row by row, and the determinant, modulo a prime; if the determinant is 0, the elements mean nothing.
func (m modulus) invert(a api.Mat) (elements []uint64, det uint64) {
	n := a.Rows
	t := newTable[uint64](n, 2*n)
	for i, row := range tableOf(a).each {
		copy(t.row(i), convert(row, m.residue))
		t.row(i)[n+i] = 1
	}
	det = m.reduce(t)
	for _, row := range t.each {
		elements = append(elements, row[n:]...)
	}
	return elements, det
}

// isInverse reports whether the product of a and b is the unit matrix; then that of b and a is, too.
func isInverse(a, b api.Mat) bool {
	product, ok := Mul(a, b)
	return ok && Equal(product, One(a.Rows))
}
