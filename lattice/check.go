package lattice

import (
	"slices"

	"cocycle/api"
	"cocycle/matrix"
	"cocycle/wide"
)

// CheckSolution reports whether a is right, and a x = b.
func CheckSolution(a api.Mat, x, b []api.Wide) bool {
	if !isSystem(a, b) || len(x) != a.Cols {
		return false
	}
	product, _ := matrix.Mul(a, column(x))
	return slices.Equal(product.E, canonical(b))
}

// CheckRefutation reports whether a is right, and y and m prove that a x = b has no solution: m divides all elements of y a, but not y b, where 0 divides only 0.
func CheckRefutation(a api.Mat, b, y []api.Wide, m api.Wide) bool {
	if !isSystem(a, b) || len(y) != a.Rows || wide.Sign(m) < 0 {
		return false
	}
	combination := api.Mat{Rows: 1, Cols: len(y), E: canonical(y)}
	ofRows, _ := matrix.Mul(combination, a)
	ofValues, _ := matrix.Mul(combination, column(b))
	return areDivisible(ofRows.E, m) && !areDivisible(ofValues.E, m)
}

func areDivisible(list []api.Wide, divisor api.Wide) bool {
	for _, n := range list {
		if _, ok := exactQuotient(n, divisor); !ok {
			return false
		}
	}
	return true
}

// column returns a list as a matrix with one column.
func column(list []api.Wide) api.Mat {
	return api.Mat{Rows: len(list), Cols: 1, E: canonical(list)}
}

// canonical returns numbers such that a right matrix may have them as elements: in lists they count by their value.
func canonical(list []api.Wide) []api.Wide {
	numbers := make([]api.Wide, len(list))
	for i, n := range list {
		numbers[i] = wide.Add(n, api.Wide{})
	}
	return numbers
}
