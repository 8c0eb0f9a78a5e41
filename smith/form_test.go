package smith_test

import (
	"math"
	"math/big"
	"testing"

	"cocycle/api"
	"cocycle/matrix"
	"cocycle/smith"
	"cocycle/wide"
)

// prime is 2^31 - 1: numbers that it divides may be treated in a special way.
const prime = 1<<31 - 1

// expectForm fails the test if Form of a right matrix is not a form of it, and returns the elements of D that are not 0. Check is tested without Form.
func expectForm(t *testing.T, name string, a api.Mat) []api.Wide {
	t.Helper()
	old := copyOf(a)
	s := smith.Form(a)
	if !same(a, old) {
		t.Fatalf("%s: Form changes %s", name, show(old))
	}
	expectCheck(t, name, a, s, true)
	var factors []api.Wide
	for k := range min(a.Rows, a.Cols) {
		if x := s.D.E[k*a.Cols+k]; x != (api.Wide{}) {
			factors = append(factors, x)
		}
	}
	return factors
}

// expectFactors fails the test if Form, Factors and Rank of a right matrix do not have these factors.
func expectFactors(t *testing.T, name string, a api.Mat, want []api.Wide) {
	t.Helper()
	old := copyOf(a)
	if got := expectForm(t, name, a); !sameList(got, want) {
		t.Fatalf("%s: Form of %s has %s, want %s", name, show(a), showList(got), showList(want))
	}
	if got := smith.Factors(a); !sameList(got, want) {
		t.Fatalf("%s: Factors of %s: %s, want %s", name, show(a), showList(got), showList(want))
	}
	if got := smith.Rank(a); got != len(want) {
		t.Fatalf("%s: Rank of %s: %d, want %d", name, show(a), got, len(want))
	}
	if !same(a, old) {
		t.Fatalf("%s: Factors or Rank changes %s", name, show(old))
	}
}

// factorsOfMinors are the factors by their definition: the product of the first k of them is the greatest common divisor of all minors with k rows and columns.
func factorsOfMinors(a api.Mat) []api.Wide {
	var factors []api.Wide
	last := big.NewInt(1)
	for k := 1; k <= min(a.Rows, a.Cols); k++ {
		divisor := new(big.Int)
		for _, rows := range choices(a.Rows, k) {
			for _, cols := range choices(a.Cols, k) {
				divisor.GCD(nil, nil, divisor, new(big.Int).Abs(minor(a, rows, cols)))
			}
		}
		if divisor.Sign() == 0 {
			break
		}
		factors = append(factors, canonical(new(big.Int).Quo(divisor, last)))
		last = divisor
	}
	return factors
}

// choices returns all lists of k numbers below n, in increasing order.
func choices(n, k int) [][]int {
	if k == 0 {
		return [][]int{nil}
	}
	var lists [][]int
	for last := k - 1; last < n; last++ {
		for _, list := range choices(last, k-1) {
			lists = append(lists, append(append([]int{}, list...), last))
		}
	}
	return lists
}

// minor returns the determinant of the elements in these rows and columns, expanded by the first row.
func minor(a api.Mat, rows, cols []int) *big.Int {
	if len(rows) == 0 {
		return big.NewInt(1)
	}
	sum := new(big.Int)
	for k, j := range cols {
		rest := append(append([]int{}, cols[:k]...), cols[k+1:]...)
		x := new(big.Int).Mul(value(a.E[rows[0]*a.Cols+j]), minor(a, rows[1:], rest))
		if k%2 == 0 {
			sum.Add(sum, x)
		} else {
			sum.Sub(sum, x)
		}
	}
	return sum
}

// P3.2, P3.3 and, for the minors, P3.4.

func TestExamples(t *testing.T) {
	for _, x := range []struct {
		rows [][]int
		want []int
	}{
		{[][]int{{2, 4}, {6, 8}}, []int{2, 4}},
		{[][]int{{2, 0}, {0, 3}}, []int{1, 6}},
		{[][]int{{0, 0}, {0, 5}}, []int{5}},
		{[][]int{{0, 0}, {0, -5}}, []int{5}},
		{[][]int{{1, 2, 3}, {4, 5, 6}, {7, 8, 9}}, []int{1, 3}},
		{[][]int{{4, 6, 10}}, []int{2}},
		{[][]int{{4}, {6}, {10}}, []int{2}},
		{[][]int{{-1}}, []int{1}},
		{[][]int{{0}}, nil},
		{[][]int{{12}}, []int{12}},
		{[][]int{{6, 0, 0}, {0, 10, 0}, {0, 0, 15}}, []int{1, 30, 30}},
		{[][]int{{4, 0}, {0, 2}}, []int{2, 4}},
		{[][]int{{4, 0}, {0, 6}}, []int{2, 12}},
		{[][]int{{0, 2}, {-4, 0}}, []int{2, 4}},
		{[][]int{{1, 1}, {1, -1}}, []int{1, 2}},
		{[][]int{{2, 1}, {0, 2}}, []int{1, 4}},
		{[][]int{{2, 1}, {4, 2}}, []int{1}},
		{[][]int{{0, 0, 0}, {0, 0, 0}}, nil},
		{[][]int{{1, 1, 0}, {0, 1, 1}, {1, 0, 1}}, []int{1, 1, 2}},
		{[][]int{{0, 1, 2}, {2, 4, 6}}, []int{1, 2}},
		{[][]int{{math.MaxInt, math.MinInt}}, []int{1}},
		{[][]int{{math.MinInt + 1, 0}, {0, math.MinInt + 1}}, []int{math.MaxInt, math.MaxInt}},
	} {
		expectFactors(t, "example", matrix.Of(x.rows), numbers(x.want...))
	}
	expectFactors(t, "the least int", matrix.Of([][]int{{math.MinInt}}), []api.Wide{wide.Neg(wide.From(math.MinInt))})
}

// TestBoundariesOfTheProjectivePlane has the matrices of the example of chapter 8.
func TestBoundariesOfTheProjectivePlane(t *testing.T) {
	edges := matrix.Of([][]int{{-1, -1, 0, 0, -1, -1}, {1, 1, -1, -1, 0, 0}, {0, 0, 1, 1, 1, 1}})
	faces := matrix.Of([][]int{{1, 1, 0, 0}, {0, 0, 1, 1}, {1, 0, 1, 0}, {0, 1, 0, 1}, {-1, 0, 0, -1}, {0, -1, -1, 0}})
	expectFactors(t, "edges", edges, numbers(1, 1))
	expectFactors(t, "faces", faces, numbers(1, 1, 1, 2))
}

func TestShapesWithoutElements(t *testing.T) {
	for _, a := range []api.Mat{{}, {E: []api.Wide{}}, {Rows: 1}, {Cols: 1}, {Rows: 3}, {Cols: 3}, {Rows: 200}, {Cols: 200}} {
		expectFactors(t, "no elements", a, nil)
	}
}

func TestZerosAndUnits(t *testing.T) {
	for _, n := range []int{1, 2, 5, 200} {
		ones := make([]api.Wide, n)
		for i := range ones {
			ones[i] = wide.From(1)
		}
		expectFactors(t, "unit matrix", matrix.One(n), ones)
		expectFactors(t, "zeros", matrix.Zero(n, n), nil)
		expectFactors(t, "a row of zeros", matrix.Zero(1, n), nil)
		expectFactors(t, "a column of zeros", matrix.Zero(n, 1), nil)
	}
	expectFactors(t, "zeros", matrix.Zero(200, 3), nil)
	expectFactors(t, "zeros", matrix.Zero(3, 200), nil)
}

func TestMatricesWithOneElement(t *testing.T) {
	for _, x := range []api.Wide{wide.From(-7), wide.From(1), wide.From(prime), wide.Neg(wide.Mul(wide.From(math.MaxInt), wide.From(math.MaxInt)))} {
		for place := range 12 {
			a := matrix.Zero(3, 4)
			a.E[place] = x
			positive := x
			positive.Neg = false
			expectFactors(t, "one element", a, []api.Wide{positive})
		}
	}
}

func TestAllSmallMatrices(t *testing.T) {
	for code := range 7 * 7 * 7 * 7 {
		e := []int{code%7 - 3, code/7%7 - 3, code/49%7 - 3, code/343 - 3}
		a := matrix.Of([][]int{e[:2], e[2:]})
		expectFactors(t, "2 x 2", a, factorsOfMinors(a))
	}
	for code := range 3 * 3 * 3 * 3 * 3 * 3 {
		var e []int
		for n := code; len(e) < 6; n /= 3 {
			e = append(e, n%3-1)
		}
		a := matrix.Of([][]int{e[:3], e[3:]})
		expectFactors(t, "2 x 3", a, factorsOfMinors(a))
		a = matrix.Transpose(a)
		expectFactors(t, "3 x 2", a, factorsOfMinors(a))
	}
}

func TestFactorsAreThoseOfMinors(t *testing.T) {
	g := generator(11)
	for _, s := range shapes() {
		for _, most := range []int{1, 2, 6, 30, 1 << 20, 1 << 60} {
			for _, zeros := range []int{2, 4, 1000} {
				for range 4 {
					a := g.matrix(s.rows, s.cols, most, zeros)
					expectFactors(t, "small matrix", a, factorsOfMinors(a))
					for i := range a.E { // common divisors
						a.E[i] = wide.Mul(a.E[i], wide.From(1+i%2*5))
					}
					expectFactors(t, "matrix with common divisors", a, factorsOfMinors(a))
				}
			}
		}
	}
	for _, s := range []shape{{5, 5}, {5, 7}, {7, 4}, {6, 6}} {
		a := g.matrix(s.rows, s.cols, 9, 5)
		expectFactors(t, "larger matrix", a, factorsOfMinors(a))
		b := multiplied(t, g.matrix(s.rows, 3, 4, 1000), g.matrix(3, s.cols, 4, 1000))
		expectFactors(t, "larger matrix of rank 3", b, factorsOfMinors(b))
	}
}

// TestDependentRowsAndColumns has ranks below the numbers of rows and columns.
func TestDependentRowsAndColumns(t *testing.T) {
	g := generator(12)
	for _, s := range shapes() {
		for rank := 0; rank < min(s.rows, s.cols); rank++ {
			for _, most := range []int{1, 5, 1 << 30} {
				a := multiplied(t, g.matrix(s.rows, rank, most, 6), g.matrix(rank, s.cols, most, 6))
				expectFactors(t, "dependent rows", a, factorsOfMinors(a))
			}
		}
	}
	expectFactors(t, "equal rows", matrix.Of([][]int{{4, 6}, {4, 6}, {4, 6}}), numbers(2))
	expectFactors(t, "equal columns", matrix.Of([][]int{{4, 4, 4}, {6, 6, 6}}), numbers(2))
	expectFactors(t, "multiples of a row", matrix.Of([][]int{{6, 9}, {-4, -6}, {0, 0}}), numbers(1))
	expectFactors(t, "multiples of a row", matrix.Of([][]int{{6, 12}, {-4, -8}, {0, 0}}), numbers(2))
}

// TestMultiplesOfAPrime has rows that are dependent modulo a prime, but not as integers.
func TestMultiplesOfAPrime(t *testing.T) {
	p := prime
	for _, rows := range [][][]int{
		{{p}},
		{{p, 0}, {0, p}},
		{{p, p}, {p, p}},
		{{p, 1}, {0, p}},
		{{1, 2}, {p + 1, 2}},
		{{1, 2, 3}, {1 + p, 2, 3}, {1, 2 - p, 3 + p}},
		{{p, 2 * p, 3 * p}, {4 * p, 5 * p, 6 * p}, {7 * p, 8 * p, 9 * p}},
		{{2, 3}, {p + 2, p + 3}, {5 * p, -4}},
		{{p - 1, -1}, {-1, p - 1}},
		{{p * 2, 0, 1}, {0, p * 3, 1}},
	} {
		a := matrix.Of(rows)
		expectFactors(t, "multiples of a prime", a, factorsOfMinors(a))
		expectFactors(t, "multiples of a prime", matrix.Transpose(a), factorsOfMinors(a))
	}
}

func TestLongNumbers(t *testing.T) {
	g := generator(13)
	for _, s := range shapes() {
		for _, digits := range []int{2, 7, 30} {
			a := g.long(s.rows, s.cols, digits)
			expectFactors(t, "long numbers", a, factorsOfMinors(a))
		}
	}
	expectForm(t, "long numbers", g.long(9, 8, 3))
}

// TestDiagonals has matrices with zeros beside the diagonal, whose elements do not divide each other.
func TestDiagonals(t *testing.T) {
	for _, list := range [][]int{{2, 3}, {3, 2}, {6, 4}, {-6, 4}, {6, 10, 15}, {15, 0, 10, 6}, {0, 0, 7}, {2, 3, 5, 7}, {4, 2, 8, 1}, {12, 18, 8, 27}, {8, 4, 2, 1}, {5, 5, 0, 5}, {-1, -2, -3, -4, -5}, {30, 42, 70, 105}, {1, 0, 1}} {
		a := diagonal(len(list), len(list), list...)
		want := factorsOfMinors(a)
		expectFactors(t, "diagonal", a, want)
		expectFactors(t, "diagonal with more rows", diagonal(len(list)+2, len(list), list...), want)
		expectFactors(t, "diagonal with more columns", diagonal(len(list), len(list)+1, list...), want)
		for i := range len(list) / 2 { // the rows in the other order
			for j := range len(list) {
				k := (len(list)-1-i)*len(list) + j
				a.E[i*len(list)+j], a.E[k] = a.E[k], a.E[i*len(list)+j]
			}
		}
		expectFactors(t, "diagonal upside down", a, want)
	}
}

// TestLongDiagonals has the numbers from 1 to n, for which the exponents of each prime number are counted.
func TestLongDiagonals(t *testing.T) {
	for _, n := range []int{1, 2, 3, 4, 5, 8, 9, 33, 60} {
		up, down, want := matrix.Zero(n, n), matrix.Zero(n, n), make([]api.Wide, n)
		for i := range n {
			want[i] = wide.From(1)
			up.E[i*n+i], down.E[i*n+i] = wide.From(i+1), wide.From(n-i)
		}
		for p := 2; p <= n; p++ {
			for power := p; power <= n && isPrime(p); power *= p {
				for k := range n / power { // so many of the numbers does this power divide
					want[n-1-k] = wide.Mul(want[n-1-k], wide.From(p))
				}
			}
		}
		expectFactors(t, "diagonal from 1 on", up, want)
		expectFactors(t, "diagonal down to 1", down, want)
	}
}

func isPrime(n int) bool {
	for d := 2; d < n; d++ {
		if n%d == 0 {
			return false
		}
	}
	return true
}

// TestManyRowsAndColumns has matrices in which numbers may grow beyond all bounds on the way.
func TestManyRowsAndColumns(t *testing.T) {
	g := generator(14)
	for _, s := range []shape{{40, 40}, {20, 60}, {60, 20}} {
		expectForm(t, "many numbers", g.matrix(s.rows, s.cols, 9, 1000))
	}
	expectForm(t, "dependent rows", multiplied(t, g.matrix(40, 30, 3, 1000), g.matrix(30, 40, 3, 1000)))
	expectForm(t, "many zeros", g.matrix(60, 60, 1, 12))
	expectForm(t, "longer numbers", g.long(12, 12, 2))
	sparse := matrix.Zero(200, 200)
	for j := range 200 { // each column is the boundary of an edge of a circle
		sparse.E[j*200+j] = wide.From(-1)
		sparse.E[(j+1)%200*200+j] = wide.From(1)
	}
	if got := expectForm(t, "circle", sparse); len(got) != 199 || got[198] != wide.From(1) {
		t.Errorf("the boundaries of a circle with 200 edges have %d factors, the last one %s", len(got), wide.Text(got[len(got)-1]))
	}
	expectFactors(t, "a row", g.matrix(1, 200, 1, 2), numbers(1))
	expectFactors(t, "a column", g.matrix(200, 1, 1, 2), numbers(1))
	expectForm(t, "rank 3", multiplied(t, g.matrix(200, 3, 9, 1000), g.matrix(3, 200, 9, 1000)))
}

func TestMatricesThatAreNotRight(t *testing.T) {
	for name, a := range wrongMatrices() {
		old := copyOf(a)
		if s := smith.Form(a); !sameSmith(s, api.Smith{}) {
			t.Errorf("Form of a matrix with %s is not the zero Smith", name)
		}
		if l := smith.Factors(a); len(l) != 0 {
			t.Errorf("Factors of a matrix with %s: %s", name, showList(l))
		}
		if n := smith.Rank(a); n != 0 {
			t.Errorf("Rank of a matrix with %s: %d", name, n)
		}
		if !same(a, old) {
			t.Errorf("a matrix with %s is changed", name)
		}
	}
}

// R3 and R4: results have memory of their own, and are the same for the same arguments.

func TestResultsShareNoMemory(t *testing.T) {
	for _, a := range []api.Mat{matrix.One(2), matrix.Zero(2, 2), diagonal(2, 2, 2, 4), matrix.Of([][]int{{2, 4}, {6, 8}}), matrix.Of([][]int{{1, 2, 3}, {4, 5, 6}})} {
		old, form := copyOf(a), copyOfSmith(smith.Form(a))
		for name := range matrices(&form) {
			s := smith.Form(a)
			changed := matrices(&s)[name]
			overwrite(changed.E)
			*changed = *matrices(&form)[name]
			if !sameSmith(s, form) || !same(a, old) {
				t.Errorf("%s of Form of %s shares memory with the argument, or another matrix", name, show(old))
			}
		}
		factors := smith.Factors(a)
		want := append([]api.Wide{}, factors...)
		overwrite(factors)
		if !sameList(smith.Factors(a), want) || !same(a, old) || !sameSmith(smith.Form(a), form) {
			t.Errorf("Factors of %s share memory", show(old))
		}
	}
}

// overwrite changes all elements of a list, and those behind its end.
func overwrite(list []api.Wide) {
	list = list[:cap(list)]
	for i := range list {
		list[i] = wide.From(-99)
	}
}

func TestEqualArgumentsHaveEqualResults(t *testing.T) {
	g := generator(15)
	for range 20 {
		a := g.matrix(6, 5, 20, 4)
		if !sameSmith(smith.Form(a), smith.Form(copyOf(a))) {
			t.Errorf("two forms of %s", show(a))
		}
	}
}
