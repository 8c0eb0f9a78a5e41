package field_test

import (
	"slices"
	"testing"

	"cocycle/api"
	"cocycle/field"
)

// P5.6

// expectSolution fails the test if Solve does not return the only matrix that it may return.
func expectSolution(t *testing.T, name string, a, b api.FMat, pivots []int) {
	t.Helper()
	x, ok := field.Solve(a, b)
	name += ": Solve of " + show(a) + " and " + show(b)
	if !ok || !field.Right(x) || x.P != a.P || x.Rows != a.Cols || x.Cols != b.Cols {
		t.Fatalf("%s: %s, %v", name, show(x), ok)
	}
	expect(t, name+", multiplied", times(a, x), b)
	for _, j := range freeColumns(a.Cols, pivots) {
		if row := x.E[j*x.Cols : (j+1)*x.Cols]; slices.ContainsFunc(row, func(n int) bool { return n != 0 }) {
			t.Fatalf("%s: %s, with pivots %v", name, show(x), pivots)
		}
	}
}

func expectNoSolution(t *testing.T, name string, a, b api.FMat) {
	t.Helper()
	x, ok := field.Solve(a, b)
	expectFalse(t, name+": Solve of "+show(a)+" and "+show(b), x, ok)
}

func TestSolveExamples(t *testing.T) {
	a := field.Of(5, [][]int{{1, 2, 3}, {2, 4, 1}})
	x, ok := field.Solve(a, field.Of(5, [][]int{{4}, {3}}))
	expectTrue(t, "Solve", x, ok, field.Of(5, [][]int{{4}, {0}, {0}}))
	expectNoSolution(t, "example", a, field.Of(5, [][]int{{4}, {4}}))
	expectNoSolution(t, "one column has a solution", a, field.Of(5, [][]int{{4, 4}, {3, 4}}))
	expectNoSolution(t, "one column has a solution", a, field.Of(5, [][]int{{4, 4}, {4, 3}}))
	x, ok = field.Solve(a, field.Of(5, [][]int{{4, 0, 2}, {3, 0, 4}}))
	expectTrue(t, "Solve of several columns", x, ok, field.Of(5, [][]int{{4, 0, 2}, {0, 0, 0}, {0, 0, 0}}))
	x, ok = field.Solve(field.Of(7, [][]int{{0, 2, 1, 0}, {0, 0, 0, 3}}), field.Of(7, [][]int{{1}, {1}}))
	expectTrue(t, "Solve of late pivots", x, ok, field.Of(7, [][]int{{0}, {4}, {0}, {5}}))
}

// TestSolveOfAllSmallMatrices tries all columns b, and looks for solutions among all columns x.
func TestSolveOfAllSmallMatrices(t *testing.T) {
	for a := range smallMatrices {
		_, pivots := field.Echelon(a)
		solvable := map[string]bool{}
		for x := range combinations(a.P, a.Cols) {
			solvable[show(api.FMat{E: apply(a, x)})] = true
		}
		for e := range combinations(a.P, a.Rows) {
			b := api.FMat{P: a.P, Rows: a.Rows, Cols: 1, E: e}
			if solvable[show(api.FMat{E: e})] {
				expectSolution(t, "small", a, b, pivots)
			} else {
				expectNoSolution(t, "small", a, b)
			}
		}
	}
}

func TestSolveOfKnownMatrices(t *testing.T) {
	g := generator(31)
	for k := range knownMatrices {
		a := k.product
		for _, cols := range []int{0, 1, 2, 7} {
			expectSolution(t, "known", a, times(a, g.matrix(a.P, a.Cols, cols, 4)), k.pivots)
			expectSolution(t, "zeros", a, build(a.P, a.Rows, cols, func(int, int) int { return 0 }), k.pivots)
			if cols == 0 || len(k.pivots) == a.Rows {
				continue
			}
			b := g.matrix(a.P, a.Rows, cols, 3) // a row of zeros of the echelon form is to have another element
			b.E[(len(k.pivots)+g.below(a.Rows-len(k.pivots)))*cols+g.below(cols)] = 1 + g.below(a.P-1)
			expectNoSolution(t, "known", a, times(k.change, b))
		}
	}
}

func TestSolveOfShapes(t *testing.T) {
	for _, p := range somePrimes() {
		for _, s := range shapes() {
			for _, cols := range []int{0, 1, 400} {
				zero := build(p, s.rows, s.cols, func(int, int) int { return 0 })
				expectSolution(t, "zeros", zero, build(p, s.rows, cols, func(int, int) int { return 0 }), nil)
				if s.rows > 0 && cols > 0 {
					expectNoSolution(t, "zeros", zero, build(p, s.rows, cols, func(i, j int) int { return truth(i == s.rows-1 && j == cols-1) }))
				}
			}
		}
	}
}

func TestSolveOfDifferentNumbersOfRows(t *testing.T) {
	for rows := range 4 {
		for other := range 4 {
			if rows == other {
				continue
			}
			for cols := range 3 {
				zero := func(int, int) int { return 0 }
				expectNoSolution(t, "rows", build(3, rows, cols, zero), build(3, other, cols, zero))
				expectNoSolution(t, "rows", build(3, rows, 2, func(i, j int) int { return truth(i == j) }), build(3, other, cols, zero))
			}
		}
	}
}

// TestSolveOfManyRowsAndColumns has together more columns than a matrix may have.
func TestSolveOfManyRowsAndColumns(t *testing.T) {
	g := generator(32)
	for _, rank := range []int{400, 300} {
		k := g.known(997, 400, 400, rank)
		expectSolution(t, "many", k.product, times(k.product, g.matrix(997, 400, 400, 9)), k.pivots)
	}
	k := g.known(997, 400, 400, 399)
	b := build(997, 400, 400, func(i, j int) int { return truth(i == 399 && j == 399) })
	expectNoSolution(t, "many", k.product, times(k.change, b))
}

// P5.7

// expectInverse fails the test if a has no inverse, or if a product with it is not the unit matrix.
func expectInverse(t *testing.T, name string, a api.FMat) {
	t.Helper()
	inverse, ok := field.Inverse(a)
	name += ": Inverse of " + show(a)
	if !ok || !field.Right(inverse) || inverse.P != a.P || inverse.Rows != a.Rows || inverse.Cols != a.Cols {
		t.Fatalf("%s: %s, %v", name, show(inverse), ok)
	}
	one := build(a.P, a.Rows, a.Rows, func(i, j int) int { return truth(i == j) })
	expect(t, name+", multiplied from the right", times(a, inverse), one)
	expect(t, name+", multiplied from the left", times(inverse, a), one)
}

func expectNoInverse(t *testing.T, name string, a api.FMat) {
	t.Helper()
	inverse, ok := field.Inverse(a)
	expectFalse(t, name+": Inverse of "+show(a), inverse, ok)
}

func TestInverseExamples(t *testing.T) {
	inverse, ok := field.Inverse(field.Of(5, [][]int{{1, 2}, {3, 4}}))
	expectTrue(t, "Inverse", inverse, ok, field.Of(5, [][]int{{3, 1}, {4, 2}}))
	expectNoInverse(t, "determinant -2", field.Of(2, [][]int{{1, 2}, {3, 4}}))
	inverse, ok = field.Inverse(field.Of(3, [][]int{{0, 1, 0}, {0, 0, 1}, {1, 0, 0}}))
	expectTrue(t, "Inverse of a permutation", inverse, ok, field.Of(3, [][]int{{0, 0, 1}, {1, 0, 0}, {0, 1, 0}}))
}

// TestInverseOfAllNumbers has all numbers of all fields.
func TestInverseOfAllNumbers(t *testing.T) {
	for _, p := range allPrimes() {
		for n := range p {
			inverse, ok := field.Inverse(api.FMat{P: p, Rows: 1, Cols: 1, E: []int{n}})
			if ok != (n != 0) {
				t.Fatalf("Inverse of %d modulo %d: %v", n, p, ok)
			}
			if ok && (!field.Right(inverse) || len(inverse.E) != 1 || inverse.E[0]*n%p != 1) {
				t.Fatalf("Inverse of %d modulo %d: %s", n, p, show(inverse))
			}
		}
	}
}

// TestInverseOfNumbersTogether has all numbers of a field in one matrix.
func TestInverseOfNumbersTogether(t *testing.T) {
	for _, p := range []int{2, 3, 5, 7, 397} {
		expectInverse(t, "diagonal", diagonal(p, p-1, count(p)[1:]...))
		expectNoInverse(t, "diagonal with 0", diagonal(p, p, count(p)...))
	}
	g := generator(41)
	numbers := make([]int, 400)
	for i := range numbers {
		numbers[i] = 1 + g.below(996)
	}
	expectInverse(t, "diagonal", diagonal(997, 400, numbers...))
}

// determinant returns the determinant, by its first row.
func determinant(a api.FMat) int {
	if a.Rows == 0 {
		return 1
	}
	sum, sign := 0, 1
	for j := range a.Cols {
		minor := build(a.P, a.Rows-1, a.Cols-1, func(i, k int) int { return at(a, i+1, k+truth(k >= j)) })
		sum += sign * at(a, 0, j) * determinant(minor)
		sign = -sign
	}
	return (sum%a.P + a.P) % a.P
}

func TestInverseOfAllSmallMatrices(t *testing.T) {
	for a := range smallMatrices {
		if a.Rows == a.Cols && determinant(a) != 0 {
			expectInverse(t, "small", a)
		} else {
			expectNoInverse(t, "small", a)
		}
	}
}

func TestInverseOfKnownMatrices(t *testing.T) {
	for k := range knownMatrices {
		expectInverse(t, "invertible", k.change)
		if k.product.Rows != k.product.Cols || len(k.pivots) < k.product.Rows {
			expectNoInverse(t, "not invertible", k.product)
		} else {
			expectInverse(t, "of full rank", k.product)
		}
	}
}

func TestInverseOfShapes(t *testing.T) {
	for _, p := range somePrimes() {
		for rows := range 4 {
			for cols := range 4 {
				a := build(p, rows, cols, func(i, j int) int { return truth(i == j) })
				if rows == cols {
					expectInverse(t, "unit matrix", a)
				} else {
					expectNoInverse(t, "not square", a)
				}
			}
		}
		expectNoInverse(t, "rows without columns", api.FMat{P: p, Rows: 400})
		expectNoInverse(t, "columns without rows", api.FMat{P: p, Cols: 400})
	}
}

func TestInverseOfManyRowsAndColumns(t *testing.T) {
	g := generator(42)
	expectInverse(t, "many", g.invertible(997, 400))
	expectInverse(t, "many", g.invertible(2, 400))
	expectNoInverse(t, "many", g.known(997, 400, 400, 399).product)
}
