package matrix_test

import (
	"math/big"
	"testing"

	"cocycle/api"
	"cocycle/matrix"
	"cocycle/wide"
)

// determinant is what Det is compared with: an elimination without fractions.
func determinant(a api.Mat) *big.Int {
	n := a.Rows
	rows := make([][]*big.Int, n)
	for i := range rows {
		for j := range n {
			rows[i] = append(rows[i], element(a, i, j))
		}
	}
	det, last := big.NewInt(1), big.NewInt(1)
	for k := range n {
		top := k
		for top < n && rows[top][k].Sign() == 0 {
			top++
		}
		if top == n {
			return new(big.Int)
		}
		if top != k {
			rows[k], rows[top] = rows[top], rows[k]
			det.Neg(det)
		}
		eliminate(rows, k, last)
		last = rows[k][k]
	}
	return det.Mul(det, last)
}

func eliminate(rows [][]*big.Int, k int, last *big.Int) {
	for i := k + 1; i < len(rows); i++ {
		factor := rows[i][k]
		for j := k; j < len(rows); j++ {
			x := new(big.Int).Mul(rows[i][j], rows[k][k])
			x.Sub(x, new(big.Int).Mul(factor, rows[k][j]))
			rows[i][j] = x.Quo(x, last)
		}
	}
}

func expectDet(t *testing.T, a api.Mat, want *big.Int) {
	t.Helper()
	if d, ok := matrix.Det(a); !ok || d != canonical(want) {
		t.Fatalf("Det of %s: %s, %v, want %v", show(a), wide.Text(d), ok, want)
	}
}

// expectInverse fails the test if a has no inverse, or if a product with it is not the unit matrix.
func expectInverse(t *testing.T, a api.Mat) {
	t.Helper()
	inverse, ok := matrix.Inverse(a)
	if !ok {
		t.Fatalf("Inverse of %s: false", show(a))
	}
	if !matrix.Right(inverse) || !sameShape(a, inverse) {
		t.Fatalf("Inverse of %s: %s", show(a), show(inverse))
	}
	expect(t, "product with the inverse", multiplied(t, a, inverse), matrix.One(a.Rows))
	expect(t, "product of the inverse", multiplied(t, inverse, a), matrix.One(a.Rows))
}

func expectNoInverse(t *testing.T, a api.Mat) {
	t.Helper()
	got, ok := matrix.Inverse(a)
	expectFalse(t, "Inverse of "+show(a), got, ok)
}

// P2.5

func TestDetExamples(t *testing.T) {
	for _, x := range []struct {
		rows [][]int
		want int64
	}{
		{nil, 1},
		{[][]int{{0}}, 0},
		{[][]int{{5}}, 5},
		{[][]int{{-5}}, -5},
		{[][]int{{1, 2}, {3, 4}}, -2},
		{[][]int{{0, 1}, {1, 0}}, -1},
		{[][]int{{2, 1}, {1, 1}}, 1},
		{[][]int{{1, 2}, {2, 4}}, 0},
		{[][]int{{0, 0}, {3, 4}}, 0},
		{[][]int{{0, 3}, {0, 4}}, 0},
		{[][]int{{0, 0, 2}, {0, 3, 0}, {5, 0, 0}}, -30},
		{[][]int{{0, 1, 0}, {0, 0, 1}, {1, 0, 0}}, 1},
		{[][]int{{1, 2, 3}, {4, 5, 6}, {7, 8, 9}}, 0},
		{[][]int{{1, 1, 1}, {1, 2, 3}, {1, 4, 9}}, 2},
	} {
		expectDet(t, matrix.Of(x.rows), big.NewInt(x.want))
	}
}

func TestDetOfSquareMatrices(t *testing.T) {
	g := generator(21)
	for n := 0; n <= 12; n++ {
		for _, size := range []int{1, 2, 7, 8, 30} {
			a := g.matrix(n, n, size)
			expectDet(t, a, determinant(a))
		}
	}
	for range 500 { // small numbers, and many zeros
		n := 1 + g.below(5)
		a := build(n, n, func(int, int) *big.Int { return big.NewInt(int64(g.between(2))) })
		expectDet(t, a, determinant(a))
	}
}

func TestDetOfDependentRows(t *testing.T) {
	g := generator(22)
	for n := 1; n <= 8; n++ {
		expectDet(t, multiplied(t, g.matrix(n, n-1, 9), g.matrix(n-1, n, 9)), new(big.Int))
	}
}

func TestDetOfManyRows(t *testing.T) {
	g := generator(23)
	expectDet(t, matrix.One(200), big.NewInt(1))
	expectDet(t, matrix.Zero(200, 200), new(big.Int))
	a := g.matrix(60, 60, 3)
	expectDet(t, a, determinant(a))
	expectDet(t, g.unimodular(t, 200, 1), big.NewInt(1))
	long := new(big.Int).Lsh(big.NewInt(1), 400)
	shifted := build(200, 200, func(i, j int) *big.Int { // 200 rows, moved down by one: an odd permutation
		if i == (j+1)%200 {
			return big.NewInt(4)
		}
		return new(big.Int)
	})
	expectDet(t, shifted, long.Neg(long))
}

// greatPrimes returns products of the greatest prime numbers below 2^31, modulo which determinants may be computed.
func greatPrimes() []*big.Int {
	product := big.NewInt(1)
	var list []*big.Int
	for _, p := range []int64{1<<31 - 1, 1<<31 - 19, 1<<31 - 61, 1<<31 - 69, 1<<31 - 85} {
		product = new(big.Int).Mul(product, big.NewInt(p))
		list = append(list, product)
	}
	return list
}

// around returns numbers around the multiples and halves of products of great primes, and of powers of 2.
func around() []*big.Int {
	products := greatPrimes()
	for _, k := range []uint{8, 30, 31, 32, 62, 63, 64, 93, 127, 128, 500} {
		products = append(products, new(big.Int).Lsh(big.NewInt(1), k))
	}
	var list []*big.Int
	for _, p := range products {
		for _, n := range []*big.Int{p, new(big.Int).Rsh(p, 1), new(big.Int).Lsh(p, 1)} {
			for more := int64(-2); more <= 2; more++ {
				m := new(big.Int).Add(n, big.NewInt(more))
				list = append(list, m, new(big.Int).Neg(m))
			}
		}
	}
	return list
}

func TestDetOfGreatNumbers(t *testing.T) {
	for _, n := range around() {
		x := canonical(n)
		expectDet(t, diagonal(x), n)
		expectDet(t, diagonal(wide.From(1), x, wide.From(-1)), new(big.Int).Neg(n))
		a := api.Mat{Rows: 2, Cols: 2, E: []api.Wide{x, wide.From(1), wide.From(1), {}}}
		expectDet(t, a, big.NewInt(-1))
	}
}

func TestInverseExamples(t *testing.T) {
	got, ok := matrix.Inverse(matrix.Of([][]int{{2, 1}, {1, 1}}))
	expectTrue(t, "Inverse", got, ok, matrix.Of([][]int{{1, -1}, {-1, 2}}))
	got, ok = matrix.Inverse(matrix.Of([][]int{{0, 1}, {1, 0}}))
	expectTrue(t, "Inverse", got, ok, matrix.Of([][]int{{0, 1}, {1, 0}}))
	got, ok = matrix.Inverse(matrix.Of([][]int{{0, 1, 0}, {0, 0, 1}, {1, 0, 0}}))
	expectTrue(t, "Inverse", got, ok, matrix.Of([][]int{{0, 0, 1}, {1, 0, 0}, {0, 1, 0}}))
	for _, n := range []int{0, 1, 2, 200} {
		got, ok = matrix.Inverse(matrix.One(n))
		expectTrue(t, "Inverse of a unit matrix", got, ok, matrix.One(n))
	}
	got, ok = matrix.Inverse(matrix.Of([][]int{{-1}}))
	expectTrue(t, "Inverse of -1", got, ok, matrix.Of([][]int{{-1}}))
	for _, rows := range [][][]int{{{1, 2}, {3, 4}}, {{0}}, {{2}}, {{-2}}, {{3}}, {{1, 2}, {2, 4}}, {{0, 0}, {0, 0}}, {{1, 0}, {0, 2}}, {{1, 2, 3}, {4, 5, 6}, {7, 8, 9}}} {
		expectNoInverse(t, matrix.Of(rows))
	}
}

func TestInverseOfUnimodularMatrices(t *testing.T) {
	g := generator(31)
	for n := 1; n <= 12; n++ {
		for _, most := range []int{1, 3, 1000, 1 << 40} {
			a := g.unimodular(t, n, most)
			expectInverse(t, a)
			for j := range n { // a negative row makes the determinant -1
				a.E[j] = wide.Neg(a.E[j])
			}
			expectInverse(t, a)
			for j := range n { // and a double one 2
				a.E[j] = wide.Add(a.E[j], a.E[j])
			}
			expectNoInverse(t, a)
		}
	}
}

func TestInverseOfManyRows(t *testing.T) {
	g := generator(32)
	a := g.unimodular(t, 200, 1)
	expectInverse(t, a)
	a.E[0] = wide.Add(a.E[0], power(31, 0))
	expectNoInverse(t, a)
	expectNoInverse(t, matrix.Zero(200, 200))
}

// TestInverseWithGreatNumbers has inverses that cannot be told from others modulo a few primes.
func TestInverseWithGreatNumbers(t *testing.T) {
	one := wide.From(1)
	for _, n := range around() {
		x := canonical(n)
		got, ok := matrix.Inverse(api.Mat{Rows: 2, Cols: 2, E: []api.Wide{one, x, {}, one}})
		expectTrue(t, "Inverse", got, ok, api.Mat{Rows: 2, Cols: 2, E: []api.Wide{one, wide.Neg(x), {}, one}})
		got, ok = matrix.Inverse(api.Mat{Rows: 2, Cols: 2, E: []api.Wide{x, one, wide.From(-1), {}}})
		expectTrue(t, "Inverse", got, ok, api.Mat{Rows: 2, Cols: 2, E: []api.Wide{{}, wide.From(-1), one, x}})
	}
}

// TestInverseOfGreatDeterminants has determinants that are 1 or -1 modulo a few primes.
func TestInverseOfGreatDeterminants(t *testing.T) {
	for _, n := range around() {
		x := canonical(n)
		expectNoInverse(t, diagonal(x))
		expectNoInverse(t, diagonal(wide.From(1), wide.From(1), x))
		next := canonical(new(big.Int).Add(n, big.NewInt(1)))
		a := api.Mat{Rows: 2, Cols: 2, E: []api.Wide{next, wide.From(1), x, wide.From(1)}}
		expectInverse(t, a)
		a.E[2] = wide.Neg(x) // now the determinant is 2 n + 1
		expectNoInverse(t, a)
	}
}

// TestInverseExactlyIfTheDeterminantIsAUnit tries all matrices with two rows and small elements.
func TestInverseExactlyIfTheDeterminantIsAUnit(t *testing.T) {
	for code := range 5 * 5 * 5 * 5 {
		e := []int{code%5 - 2, code/5%5 - 2, code/25%5 - 2, code/125 - 2}
		a := matrix.Of([][]int{e[:2], e[2:]})
		if det := e[0]*e[3] - e[1]*e[2]; det == 1 || det == -1 {
			expectInverse(t, a)
		} else {
			expectNoInverse(t, a)
		}
	}
}

func TestDetAndInverseOfMatricesThatAreNotSquareOrNotRight(t *testing.T) {
	wrong := wrongMatrices()
	for _, a := range append(rightMatrices(), matrix.Zero(199, 200), matrix.Zero(0, 1), matrix.Zero(1, 0)) {
		if a.Rows != a.Cols {
			wrong["the shape of "+show(a)] = a
		}
	}
	wrong["a wrong number beside the diagonal"] = api.Mat{Rows: 2, Cols: 2, E: []api.Wide{wide.From(1), {Neg: true}, {}, wide.From(1)}}
	wrong["a wrong form of 1"] = api.Mat{Rows: 1, Cols: 1, E: []api.Wide{{Mag: "\x00\x01"}}}
	for name, a := range wrong {
		if d, ok := matrix.Det(a); ok || d != (api.Wide{}) {
			t.Errorf("Det of a matrix with %s: %s, %v", name, wide.Text(d), ok)
		}
		got, ok := matrix.Inverse(a)
		expectFalse(t, "Inverse of a matrix with "+name, got, ok)
	}
}

func TestDetAndInverseKeepTheirArgument(t *testing.T) {
	a := matrix.Of([][]int{{0, 1, 5}, {1, 0, 7}, {0, 0, -1}})
	b := copyOf(a)
	matrix.Det(a)
	matrix.Inverse(a)
	expect(t, "argument of Det and Inverse", a, b)
}
