package field_test

import (
	"testing"

	"cocycle/api"
	"cocycle/field"
)

// P5.8

// samples visits matrices of all shapes and several primes, with many zeros and with few.
func samples(yield func(a api.FMat) bool) {
	g := generator(51)
	for _, s := range shapes() {
		for _, p := range []int{2, 3, 7, 997} {
			for _, zeros := range []int{1, 2, 1000} {
				if !yield(g.matrix(p, s.rows, s.cols, zeros)) {
					return
				}
			}
		}
	}
	for _, p := range []int{2, 997} {
		if !yield(g.matrix(p, 60, 90, 2)) || !yield(times(g.matrix(p, 60, 20, 2), g.matrix(p, 20, 60, 2))) {
			return
		}
	}
}

func TestRanksOfKernelsAndTransposes(t *testing.T) {
	for a := range samples {
		rank := field.Rank(a)
		if kernel := field.Kernel(a); rank+kernel.Cols != a.Cols || field.Rank(kernel) != kernel.Cols {
			t.Errorf("%s: rank %d, kernel %s", show(a), rank, show(kernel))
		}
		if other := field.Rank(field.Transpose(a)); other != rank {
			t.Errorf("%s: rank %d, transpose %d", show(a), rank, other)
		}
		expect(t, "Transpose twice", field.Transpose(field.Transpose(a)), a)
	}
}

func TestRankOfProducts(t *testing.T) {
	g := generator(52)
	for a := range samples {
		for _, cols := range []int{0, 1, 3, 6} {
			b := g.matrix(a.P, a.Cols, cols, 2)
			product, ok := field.Mul(a, b)
			if !ok || field.Rank(product) > min(field.Rank(a), field.Rank(b)) {
				t.Errorf("Rank of the product of %s and %s: %d", show(a), show(b), field.Rank(product))
			}
		}
	}
}

func TestSpanOfImages(t *testing.T) {
	for a := range samples {
		image := field.Image(a)
		if image.Cols != field.Rank(a) || field.Rank(image) != image.Cols {
			t.Errorf("Image of %s: %s", show(a), show(image))
		}
		if _, ok := field.Solve(image, a); !ok {
			t.Errorf("Image of %s has not all columns in its span: %s", show(a), show(image))
		}
		if _, ok := field.Solve(a, image); !ok {
			t.Errorf("Image of %s has more in its span: %s", show(a), show(image))
		}
	}
}

func TestSolveAndRanks(t *testing.T) {
	g := generator(53)
	for a := range samples {
		for _, b := range []api.FMat{g.matrix(a.P, a.Rows, 1, 2), g.matrix(a.P, a.Rows, 3, 2), times(a, g.matrix(a.P, a.Cols, 2, 2))} {
			if a.Cols+b.Cols > 400 {
				continue
			}
			both, _ := field.Join(a, b)
			x, ok := field.Solve(a, b)
			if ok != (field.Rank(both) == field.Rank(a)) {
				t.Errorf("Solve of %s and %s: %v", show(a), show(b), ok)
			}
			if ok {
				expect(t, "product with the solution", times(a, x), b)
			}
		}
	}
}

func TestRulesOfSumsAndProducts(t *testing.T) {
	g := generator(54)
	for _, p := range somePrimes() {
		for range 20 {
			rows, inner, cols := g.below(6), g.below(6), g.below(6)
			a, b, c := g.matrix(p, rows, inner, 4), g.matrix(p, inner, cols, 4), g.matrix(p, inner, cols, 4)
			sum, _ := field.Add(b, c)
			left, ok := field.Mul(a, sum)
			first, _ := field.Mul(a, b)
			second, _ := field.Mul(a, c)
			right, _ := field.Add(first, second)
			expectTrue(t, "product of a sum", left, ok, right)
			other, ok := field.Mul(field.Transpose(b), field.Transpose(a))
			expectTrue(t, "transpose of a product", other, ok, field.Transpose(first))
			same, ok := field.Mul(a, field.One(p, inner))
			expectTrue(t, "product with the unit matrix", same, ok, a)
		}
	}
}
