package smith_test

import (
	"testing"

	"cocycle/api"
	"cocycle/matrix"
	"cocycle/smith"
	"cocycle/wide"
)

// P3.4 (the minors are in form_test.go)

// TestFactorsThatAreKnown multiplies a normal matrix with others whose determinants are 1 or -1.
func TestFactorsThatAreKnown(t *testing.T) {
	g := generator(21)
	for _, s := range shapes() {
		for _, list := range normals() {
			if len(list) > min(s.rows, s.cols) {
				continue
			}
			var want []api.Wide
			for _, n := range list {
				if n != 0 {
					want = append(want, wide.From(n))
				}
			}
			for _, most := range []int{0, 1, 4, 1 << 35} {
				a, _ := g.known(t, diagonal(s.rows, s.cols, list...), most)
				expectFactors(t, "product", a, want)
				expectFactors(t, "transpose of a product", matrix.Transpose(a), want)
			}
		}
	}
}

func TestManyFactorsThatAreKnown(t *testing.T) {
	g := generator(22)
	for _, x := range []struct {
		shape
		first []int // the other factors are equal to the last one
		rank  int
	}{
		{shape{30, 30}, []int{1, 1, 2, 2, 6, 12}, 30},
		{shape{30, 30}, []int{2}, 30},
		{shape{25, 35}, []int{1, 3}, 20},
		{shape{35, 25}, []int{5, 10}, 25},
		{shape{30, 30}, []int{1}, 15},
	} {
		list := append([]int{}, x.first...)
		for len(list) < x.rank {
			list = append(list, list[len(list)-1])
		}
		a, _ := g.known(t, diagonal(x.rows, x.cols, list...), 1)
		expectFactors(t, "product", a, numbers(list...))
		expectFactors(t, "transpose of a product", matrix.Transpose(a), numbers(list...))
	}
}

func TestFactorsOfTransposesAndProducts(t *testing.T) {
	g := generator(23)
	for _, s := range shapes() {
		for _, most := range []int{1, 12, 1 << 40} {
			a := g.matrix(s.rows, s.cols, most, 4)
			want := smith.Factors(a)
			p, _ := g.unimodular(t, s.rows, 3)
			q, _ := g.unimodular(t, s.cols, 3)
			expectFactors(t, "a", a, want)
			expectFactors(t, "transpose", matrix.Transpose(a), want)
			expectFactors(t, "P a", multiplied(t, p, a), want)
			expectFactors(t, "a Q", multiplied(t, a, q), want)
			expectFactors(t, "P a Q", multiplied(t, p, a, q), want)
		}
	}
}

// TestFactorsOfMultiples multiplies all elements by a number.
func TestFactorsOfMultiples(t *testing.T) {
	g := generator(24)
	for _, s := range shapes() {
		a := g.matrix(s.rows, s.cols, 8, 3)
		for _, n := range []int{-1, 6, -prime} {
			var want []api.Wide
			for _, x := range smith.Factors(a) {
				product := wide.Mul(x, wide.From(n))
				product.Neg = false
				want = append(want, product)
			}
			b := copyOf(a)
			for i, x := range b.E {
				b.E[i] = wide.Mul(x, wide.From(n))
			}
			expectFactors(t, "multiple", b, want)
		}
	}
}

// TestProductOfTheFactors compares with Det.
func TestProductOfTheFactors(t *testing.T) {
	g := generator(25)
	for n := range 16 {
		a := g.matrix(n, n, 9, 4)
		det, _ := matrix.Det(a)
		det.Neg = false
		product := wide.From(1)
		for _, x := range expectForm(t, "square matrix", a) {
			product = wide.Mul(product, x)
		}
		if smith.Rank(a) < n {
			product = api.Wide{}
		}
		if product != det {
			t.Errorf("the product of the factors of %s is %s, its determinant %s", show(a), wide.Text(product), wide.Text(det))
		}
	}
}

// TestCheckDoesNotDependOnForm checks other transforms than those that Form finds.
func TestCheckDoesNotDependOnForm(t *testing.T) {
	g := generator(26)
	for _, s := range shapes() {
		a := g.matrix(s.rows, s.cols, 9, 3)
		p, inverse := g.unimodular(t, s.rows, 3)
		form := smith.Form(multiplied(t, p, a))
		form.U, form.UI = multiplied(t, form.U, p), multiplied(t, inverse, form.UI)
		expectCheck(t, "another form", a, form, true)
	}
}
