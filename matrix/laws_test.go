package matrix_test

import (
	"testing"

	"cocycle/api"
	"cocycle/matrix"
	"cocycle/wide"
)

// P2.6

func added(t *testing.T, a, b api.Mat) api.Mat {
	t.Helper()
	sum, ok := matrix.Add(a, b)
	if !ok {
		t.Fatalf("Add of %s and %s: false", show(a), show(b))
	}
	return sum
}

// shapes returns triples of numbers of rows and columns.
func shapes() [][3]int {
	return [][3]int{{0, 0, 0}, {0, 2, 3}, {2, 0, 3}, {2, 3, 0}, {1, 1, 1}, {1, 5, 2}, {4, 1, 4}, {3, 3, 3}, {6, 2, 5}}
}

func TestProductsAreAssociative(t *testing.T) {
	g := generator(41)
	for _, s := range shapes() {
		for _, size := range []int{1, 3, 5, 25} {
			a, b, c := g.matrix(s[0], s[1], size), g.matrix(s[1], s[2], size), g.matrix(s[2], s[0], size)
			expect(t, "(a b) c", multiplied(t, multiplied(t, a, b), c), multiplied(t, a, multiplied(t, b, c)))
		}
	}
}

func TestProductsDistributeOverSums(t *testing.T) {
	g := generator(42)
	for _, s := range shapes() {
		for _, size := range []int{1, 3, 5, 25} {
			a, b, c := g.matrix(s[0], s[1], size), g.matrix(s[1], s[2], size), g.matrix(s[1], s[2], size)
			expect(t, "a (b + c)", multiplied(t, a, added(t, b, c)), added(t, multiplied(t, a, b), multiplied(t, a, c)))
			d, e := matrix.Transpose(b), matrix.Transpose(c)
			f := g.matrix(s[1], s[0], size)
			expect(t, "(d + e) f", multiplied(t, added(t, d, e), f), added(t, multiplied(t, d, f), multiplied(t, e, f)))
		}
	}
}

func TestTransposesOfProducts(t *testing.T) {
	g := generator(43)
	for _, s := range shapes() {
		for _, size := range []int{1, 3, 5, 25} {
			a, b := g.matrix(s[0], s[1], size), g.matrix(s[1], s[2], size)
			expect(t, "transpose of a b", matrix.Transpose(multiplied(t, a, b)), multiplied(t, matrix.Transpose(b), matrix.Transpose(a)))
		}
	}
}

func TestDeterminantsOfProducts(t *testing.T) {
	g := generator(44)
	for n := range 7 {
		for _, size := range []int{1, 3, 5, 25} {
			a, b := g.matrix(n, n, size), g.matrix(n, n, size)
			first, _ := matrix.Det(a)
			second, _ := matrix.Det(b)
			if product, ok := matrix.Det(multiplied(t, a, b)); !ok || product != wide.Mul(first, second) {
				t.Errorf("Det of the product of %s and %s: %s, %v", show(a), show(b), wide.Text(product), ok)
			}
			if transposed, ok := matrix.Det(matrix.Transpose(a)); !ok || transposed != first {
				t.Errorf("Det of the transpose of %s: %s, %v", show(a), wide.Text(transposed), ok)
			}
		}
	}
}

func TestUnitMatricesAndInverses(t *testing.T) {
	g := generator(45)
	for n := range 7 {
		a, b := g.unimodular(t, n, 50), g.unimodular(t, n, 50)
		expect(t, "1 a", multiplied(t, matrix.One(n), a), a)
		expect(t, "a 1", multiplied(t, a, matrix.One(n)), a)
		product, _ := matrix.Inverse(multiplied(t, a, b))
		first, _ := matrix.Inverse(a)
		second, _ := matrix.Inverse(b)
		expect(t, "inverse of a b", product, multiplied(t, second, first))
		again, ok := matrix.Inverse(first)
		expectTrue(t, "inverse of the inverse", again, ok, a)
	}
}

// TestElements compares Apply with Mul, and At with Part.
func TestElements(t *testing.T) {
	for _, a := range rightMatrices() {
		for j := range a.Cols {
			x := make([]api.Wide, a.Cols)
			x[j] = wide.From(1)
			got, ok := matrix.Apply(a, x)
			want, _ := matrix.Part(a, 0, j, a.Rows, 1)
			expectTrue(t, "column as a product", column(got), ok, want)
			if a.Rows > 0 && matrix.At(want, a.Rows-1, 0) != matrix.At(a, a.Rows-1, j) {
				t.Fatalf("Part and At of %s differ in column %d", show(a), j)
			}
		}
	}
}
