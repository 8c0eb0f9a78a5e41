package field

import (
	"slices"

	"cocycle/api"
)

// inverses keeps the inverses of numbers modulo a prime, by these numbers, as far as they were asked for, and 0 for the others.
type inverses [api.MaxPrime]int

// of returns the number whose product with n, which is from 1 to p - 1, is 1 modulo p.
func (known *inverses) of(n, p int) int {
	if n == 1 {
		return 1
	}
	if known[n] == 0 {
		// p = n (p / n) + p % n is 0, so n times -(p / n) is p % n, which is less than n, and not 0.
		known[n] = (p - p/n) * known.of(p%n, p) % p
	}
	return known[n]
}

// reduction is a matrix that is being reduced: the first rows have the pivots that were found so far. On the way, an element may be any number with the right residue.
type reduction struct {
	prime    int
	rows     [][]int
	pivots   []int // the columns of the pivots
	inverses inverses
}

// reduce returns the matrix that is made of a by reducing its first columns, so many of them, and the columns of the pivots. Rows are changed as a whole, but no pivots are looked for in the other columns.
func reduce(a api.FMat, cols int) (api.FMat, []int) {
	r := reduction{prime: a.P}
	a.E = slices.Clone(a.E)
	for i := range a.Rows {
		r.rows = append(r.rows, rowOf(a, i))
	}
	for row, col := r.findPivot(0, cols); col < cols; row, col = r.findPivot(col+1, cols) {
		r.addPivot(row, col)
	}
	change(r.rows, r.takeResidues)
	a.E = slices.Concat(r.rows...)
	return a, r.pivots
}

// findPivot returns the first place from column col on that has an element other than 0 in a row without a pivot; the column end, if there is none before it.
func (r *reduction) findPivot(col, end int) (row, pivot int) {
search:
	for ; col < end; col++ {
		for row = len(r.pivots); row < len(r.rows); row++ {
			if r.rows[row][col]%r.prime != 0 {
				break search
			}
		}
	}
	return row, col
}

// addPivot makes the element at a place the next pivot.
func (r *reduction) addPivot(row, col int) {
	rank := len(r.pivots)
	r.rows[rank], r.rows[row] = r.rows[row], r.rows[rank]
	r.pivots = append(r.pivots, col)
	r.normalize(r.rows[rank])
	change(r.rows[:rank], r.clear)
	change(r.rows[rank+1:], r.clear)
}

// change makes the same change of several rows, one after the other.
func change(rows [][]int, changeRow func(row []int)) {
	for _, row := range rows {
		changeRow(row)
	}
}

// last returns the last row with a pivot, and the column of the pivot.
func (r *reduction) last() (row []int, col int) {
	last := len(r.pivots) - 1
	return r.rows[last], r.pivots[last]
}

// normalize multiplies the last row with a pivot such that the pivot is 1.
func (r *reduction) normalize(row []int) {
	_, col := r.last()
	factor := r.inverses.of(row[col]%r.prime, r.prime)
	for j, x := range row {
		row[j] = x * factor % r.prime
	}
}

// clear adds the multiple of the last row with a pivot to another row that makes its element in the column of the pivot 0. In the columns before it, the last row has zeros alone.
func (r *reduction) clear(row []int) {
	last, col := r.last()
	if element := row[col] % r.prime; element != 0 {
		addMultiple(row[col:], last[col:], r.prime-element)
	}
}

func (r *reduction) takeResidues(row []int) {
	takeResidues(row, r.prime)
}
