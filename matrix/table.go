package matrix

// table is a matrix with elements of any type, row by row.
type table[T any] struct {
	rows, cols int
	elements   []T
}

func newTable[T any](rows, cols int) table[T] {
	return table[T]{rows, cols, make([]T, rows*cols)}
}

// row returns a row, not a copy of it; its capacity ends with it.
func (t table[T]) row(i int) []T {
	start, end := i*t.cols, (i+1)*t.cols
	return t.elements[start:end:end]
}

// each visits the rows, with their numbers.
func (t table[T]) each(yield func(i int, row []T) bool) {
	for i := range t.rows {
		if !yield(i, t.row(i)) {
			return
		}
	}
}

// convert returns the results of an operation on each element of a list.
func convert[A, B any](list []A, operation func(A) B) []B {
	results := make([]B, len(list))
	for i, x := range list {
		results[i] = operation(x)
	}
	return results
}

// combine returns the results of an operation on the elements of two lists of the same length, place by place.
func combine[A, B, C any](a []A, b []B, operation func(A, B) C) []C {
	results := make([]C, len(a))
	for i, x := range a {
		results[i] = operation(x, b[i])
	}
	return results
}

// multiply returns the product of two tables, the second one with as many rows as the first one has columns. The zero value of T is the number 0.
func multiply[T comparable](a, b table[T], times, plus func(x, y T) T) table[T] {
	var zero T
	product := newTable[T](a.rows, b.cols)
	for i, row := range a.each {
		sums := product.row(i)
		for k, factor := range row {
			if factor == zero { // most elements of the matrices of complexes are
				continue
			}
			for j, x := range b.row(k) {
				if x != zero {
					sums[j] = plus(sums[j], times(factor, x))
				}
			}
		}
	}
	return product
}
