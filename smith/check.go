package smith

import (
	"cocycle/api"
	"cocycle/matrix"
	"cocycle/wide"
)

// Check reports whether s is a Smith normal form of a, with transforms and their inverses.
func Check(a api.Mat, s api.Smith) bool {
	return hasRightMatrices(a, s) && isNormal(s.D) && areInverse(s.U, s.UI) && areInverse(s.V, s.VI) && isTransformed(a, s)
}

// hasRightMatrices reports whether a and the matrices of s are right, and have the numbers of rows and columns that belong together.
func hasRightMatrices(a api.Mat, s api.Smith) bool {
	return isRight(a, a.Rows, a.Cols) && isRight(s.D, a.Rows, a.Cols) &&
		isRight(s.U, a.Rows, a.Rows) && isRight(s.UI, a.Rows, a.Rows) &&
		isRight(s.V, a.Cols, a.Cols) && isRight(s.VI, a.Cols, a.Cols)
}

// isRight reports whether m is right, and has so many rows and columns.
func isRight(m api.Mat, rows, cols int) bool {
	return m.Rows == rows && m.Cols == cols && matrix.Right(m)
}

// areInverse reports whether the product of two right matrices with as many rows as columns is the unit matrix; then the product in the other order is, too.
func areInverse(m, inverse api.Mat) bool {
	product, ok := matrix.Mul(m, inverse)
	return ok && matrix.Equal(product, matrix.One(m.Rows))
}

// isTransformed reports whether the transforms lead from a to D.
func isTransformed(a api.Mat, s api.Smith) bool {
	left, ok := matrix.Mul(s.U, a)
	if !ok {
		return false
	}
	product, ok := matrix.Mul(left, s.V)
	return ok && matrix.Equal(product, s.D)
}

// isNormal reports whether a right matrix has zeros beside its diagonal, and on it numbers that are not negative, each of which divides the next one.
func isNormal(d api.Mat) bool {
	last := wide.From(1)
	for _, x := range diagonal(d) {
		if x.Neg || !divides(last, x) {
			return false
		}
		last = x
	}
	for k, x := range d.E {
		if k/d.Cols != k%d.Cols && !isZero(x) {
			return false
		}
	}
	return true
}

// diagonal returns the elements of a right matrix whose row and column have the same number.
func diagonal(m api.Mat) []api.Wide {
	list := make([]api.Wide, min(m.Rows, m.Cols))
	for k := range list {
		list[k] = m.E[k*m.Cols+k]
	}
	return list
}

// divides reports whether a divides b: 0 divides only 0.
func divides(a, b api.Wide) bool {
	if isZero(b) {
		return true
	}
	_, rest, ok := wide.Quo(b, a)
	return ok && isZero(rest)
}

// isZero reports whether an element of a right matrix is 0.
func isZero(x api.Wide) bool {
	return x.Mag == ""
}
