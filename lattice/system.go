package lattice

import (
	"iter"

	"cocycle/api"
	"cocycle/matrix"
	"cocycle/smith"
	"cocycle/wide"
)

// system is a matrix a with its Smith normal form D = U a V: a x = b means D z = U b for the coordinates z with x = V z. Only the first coordinates, as many as the rank, are determined by b.
type system struct {
	api.Smith
	rank int
}

// newSystem returns the system of a right matrix.
func newSystem(a api.Mat) system {
	s := system{Smith: smith.Form(a)}
	for wide.Sign(s.divisor(s.rank)) != 0 {
		s.rank++
	}
	return s
}

// divisor returns the number that divides an element of U b in this row, if there is a solution: the one on the diagonal of D, or 0 where the diagonal has ended.
func (s system) divisor(row int) api.Wide {
	if row >= min(s.D.Rows, s.D.Cols) {
		return api.Wide{}
	}
	return s.D.E[row*s.D.Cols+row]
}

// coordinates returns the coordinates that are determined by b, for each column of b, and true. If a column has no solution, it returns the first row of U b with an element that its divisor does not divide, and false.
func (s system) coordinates(b api.Mat) (z api.Mat, failed int, ok bool) {
	var collected []api.Wide
	collect := func(row int, element api.Wide) bool {
		quotient, ok := exactQuotient(element, s.divisor(row))
		if ok && row < s.rank { // the other quotients are 0, and no coordinates
			collected = append(collected, quotient)
		}
		return ok
	}
	transformed, _ := matrix.Mul(s.U, b)
	for i, row := range rowsOf(transformed) {
		for _, x := range row {
			if !collect(i, x) {
				return api.Mat{}, i, false
			}
		}
	}
	return api.Mat{Rows: s.rank, Cols: b.Cols, E: collected}, 0, true
}

// point undoes coordinates: it returns the x with these coordinates whose other coordinates are 0, for each column of z.
func (s system) point(z api.Mat) api.Mat {
	determined, _ := matrix.Part(s.V, 0, 0, s.V.Rows, s.rank)
	x, _ := matrix.Mul(determined, z)
	return x
}

// rowsOf visits the rows of a right matrix, with their numbers.
func rowsOf(a api.Mat) iter.Seq2[int, []api.Wide] {
	return func(yield func(i int, row []api.Wide) bool) {
		for i := range a.Rows {
			if !yield(i, a.E[i*a.Cols:(i+1)*a.Cols]) {
				return
			}
		}
	}
}

// exactQuotient returns n / divisor, and true, if the divisor divides n. 0 divides only 0, and the quotient is 0 then.
func exactQuotient(n, divisor api.Wide) (api.Wide, bool) {
	if wide.Sign(divisor) == 0 {
		return api.Wide{}, wide.Sign(n) == 0
	}
	quotient, rest, _ := wide.Quo(n, divisor)
	if wide.Sign(rest) != 0 {
		return api.Wide{}, false
	}
	return quotient, true
}
