package matrix

import "cocycle/api"

// Transpose returns the matrix whose rows are the columns of a, if a is right.
func Transpose(a api.Mat) api.Mat {
	if !Right(a) {
		return api.Mat{}
	}
	t := newTable[api.Wide](a.Cols, a.Rows)
	for i, row := range tableOf(a).each {
		for j, x := range row {
			t.row(j)[i] = x
		}
	}
	return matrixOf(t)
}

// Join returns the columns of a, and after them those of b, and true, if both are right, have as many rows, and together not too many columns.
func Join(a, b api.Mat) (api.Mat, bool) {
	if !Right(a) || !Right(b) || a.Rows != b.Rows || !isSize(a.Cols+b.Cols) {
		return api.Mat{}, false
	}
	left, right := tableOf(a), tableOf(b)
	joined := newTable[api.Wide](a.Rows, a.Cols+b.Cols)
	for i, row := range joined.each {
		copy(row, left.row(i))
		copy(row[a.Cols:], right.row(i))
	}
	return matrixOf(joined), true
}

// Part returns so many rows and columns of a, from these on, and true, if a is right and has them.
func Part(a api.Mat, row, col, rows, cols int) (api.Mat, bool) {
	if !Right(a) || !isRange(row, rows, a.Rows) || !isRange(col, cols, a.Cols) {
		return api.Mat{}, false
	}
	whole := tableOf(a)
	part := newTable[api.Wide](rows, cols)
	for i, elements := range part.each {
		copy(elements, whole.row(row + i)[col:])
	}
	return matrixOf(part), true
}

// isRange reports whether count places from start on are among the first size ones. (The sum of start and count might overflow.)
func isRange(start, count, size int) bool {
	return start >= 0 && count >= 0 && count <= size-start
}
