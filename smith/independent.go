package smith

import (
	"cocycle/api"
	"cocycle/wide"
)

// prime is the number modulo which rows are tested for being independent. Independent rows may seem dependent then, but seldom, and no result is wrong because of it: only numbers get longer on the way.
const prime = 1<<31 - 1

// bringUpIndependentRows exchanges rows of D until the first ones are independent, and the other ones depend on them, modulo a prime; and returns how many are independent.
func (w *work) bringUpIndependentRows() (count int) {
	var basis echelon
	for i := range w.D.Rows {
		start := i * w.D.Cols
		if basis.extend(residues(w.D.E[start : start+w.D.Cols])) {
			w.exchangeRows(count, i)
			count++
		}
	}
	return count
}

// residues returns numbers modulo the prime.
func residues(list []api.Wide) []uint64 {
	results := make([]uint64, len(list))
	for k, x := range list {
		_, rest, _ := wide.Quo(x, wide.From(prime))
		n, _ := wide.Int(rest)
		results[k] = uint64(n)
	}
	return results
}

// echelon is a list of rows modulo the prime, each with the place of its first element that is not 0: the later rows are 0 there.
type echelon struct {
	rows   [][]uint64
	places []int
}

// extend adds the row to the list, as far as it is independent of the rows there, and reports whether it is.
func (e *echelon) extend(row []uint64) bool {
	for k, other := range e.rows {
		eliminateResidue(row, other, e.places[k])
	}
	for place, x := range row {
		if x != 0 {
			e.rows = append(e.rows, row)
			e.places = append(e.places, place)
			return true
		}
	}
	return false
}

// eliminateResidue makes row 0 at a place where other is not, by multiplying it and subtracting a multiple of other.
func eliminateResidue(row, other []uint64, place int) {
	if row[place] == 0 {
		return
	}
	multiplier, factor := other[place], prime-row[place]
	for j, x := range other {
		row[j] = (row[j]*multiplier + x*factor) % prime
	}
}
