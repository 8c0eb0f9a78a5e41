package field

import (
	"slices"

	"cocycle/api"
)

// Echelon returns the echelon form of a, and the numbers of the pivot columns, if a is right.
func Echelon(a api.FMat) (api.FMat, []int) {
	if !Right(a) {
		return api.FMat{}, nil
	}
	return reduce(a, a.Cols)
}

// Rank returns the number of pivots of a, if a is right, and otherwise 0.
func Rank(a api.FMat) int {
	_, pivots := Echelon(a)
	return len(pivots)
}

// Kernel returns the basis of the vectors x with a x = 0 that has one column for each column of a without a pivot, if a is right.
func Kernel(a api.FMat) api.FMat {
	if !Right(a) {
		return api.FMat{}
	}
	reduced, pivots := reduce(a, a.Cols)
	kernel := zeros(a.P, a.Cols, a.Cols-len(pivots))
	k := 0
	for col := range a.Cols {
		if slices.Contains(pivots, col) {
			continue
		}
		rowOf(kernel, col)[k] = 1
		for i, pivot := range pivots {
			rowOf(kernel, pivot)[k] = residue(-rowOf(reduced, i)[col], a.P)
		}
		k++
	}
	return kernel
}

// Image returns the pivot columns of a, if a is right.
func Image(a api.FMat) api.FMat {
	if !Right(a) {
		return api.FMat{}
	}
	_, pivots := reduce(a, a.Cols)
	image := zeros(a.P, a.Rows, len(pivots))
	for i := range a.Rows {
		for k, pivot := range pivots {
			rowOf(image, i)[k] = rowOf(a, i)[pivot]
		}
	}
	return image
}

// Solve returns the x with a x = b whose rows are 0 where columns of a have no pivots, and true, if both are of one field, have as many rows, and there is one.
func Solve(a, b api.FMat) (api.FMat, bool) {
	if !areOfOneField(a, b) || a.Rows != b.Rows {
		return api.FMat{}, false
	}
	reduced, pivots := reduce(join(a, b), a.Cols)
	for i := len(pivots); i < a.Rows; i++ {
		if slices.ContainsFunc(rowOf(reduced, i), isNotZero) { // that of a is a row of zeros
			return api.FMat{}, false
		}
	}
	x := zeros(a.P, a.Cols, b.Cols)
	for i, pivot := range pivots {
		copy(rowOf(x, pivot), rowOf(reduced, i)[a.Cols:])
	}
	return x, true
}

func isNotZero(n int) bool {
	return n != 0
}

// Inverse returns the inverse of a, and true, if a is right and has one.
func Inverse(a api.FMat) (api.FMat, bool) {
	if a.Rows != a.Cols { // a could have an inverse from one side alone
		return api.FMat{}, false
	}
	return Solve(a, One(a.P, a.Rows))
}
