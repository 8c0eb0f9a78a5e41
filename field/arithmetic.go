package field

import "cocycle/api"

// Add returns a + b, and true, if both are of one field and have the same numbers of rows and columns.
func Add(a, b api.FMat) (api.FMat, bool) {
	if !areOfOneField(a, b) || !haveSameShape(a, b) {
		return api.FMat{}, false
	}
	sum := zeros(a.P, a.Rows, a.Cols)
	for i, x := range a.E {
		sum.E[i] = (x + b.E[i]) % a.P
	}
	return sum, true
}

// Mul returns the product of a and b, and true, if both are of one field, and b has as many rows as a has columns.
func Mul(a, b api.FMat) (api.FMat, bool) {
	if !areOfOneField(a, b) || a.Cols != b.Rows {
		return api.FMat{}, false
	}
	product := zeros(a.P, a.Rows, b.Cols)
	for i := range a.Rows {
		sums := rowOf(product, i)
		for k, factor := range rowOf(a, i) {
			if factor != 0 { // most elements of the matrices of complexes are 0
				addMultiple(sums, rowOf(b, k), factor)
			}
		}
		takeResidues(sums, a.P)
	}
	return product, true
}

// Join returns the columns of a, and after them those of b, and true, if both are of one field, have as many rows, and together not too many columns.
func Join(a, b api.FMat) (api.FMat, bool) {
	if !areOfOneField(a, b) || a.Rows != b.Rows || !isSize(a.Cols+b.Cols) {
		return api.FMat{}, false
	}
	return join(a, b), true
}

// join does what Join does, with any number of columns.
func join(a, b api.FMat) api.FMat {
	joined := zeros(a.P, a.Rows, a.Cols+b.Cols)
	for i := range a.Rows {
		row := rowOf(joined, i)
		copy(row, rowOf(a, i))
		copy(row[a.Cols:], rowOf(b, i))
	}
	return joined
}

// Transpose returns the matrix whose rows are the columns of a, if a is right.
func Transpose(a api.FMat) api.FMat {
	if !Right(a) {
		return api.FMat{}
	}
	transpose := zeros(a.P, a.Cols, a.Rows)
	for i := range a.Rows {
		for j, x := range rowOf(a, i) {
			rowOf(transpose, j)[i] = x
		}
	}
	return transpose
}

// addMultiple adds factor times the row source to the row target, which has as many elements. It takes no residues: that would take most of the time, and a row needs it only once for many sums. With elements and factors below 1000, maxSize sums stay below 2^29.
func addMultiple(target, source []int, factor int) {
	target = target[:len(source)]
	for j, x := range source {
		target[j] += factor * x
	}
}

// takeResidues replaces the elements of a row, which are not negative, by their residues.
func takeResidues(row []int, p int) {
	for j := range row {
		row[j] %= p
	}
}
