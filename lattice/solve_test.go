package lattice_test

import (
	"math"
	"testing"

	"cocycle/api"
	"cocycle/lattice"
	"cocycle/matrix"
	"cocycle/wide"
)

// expectAnswer fails the test if Solve and Refute do not return either a solution or a refutation of a x = b, by the words of the chapter, and otherwise zero values; or if the checks disagree. It returns whether there is a solution.
func expectAnswer(t *testing.T, name string, a api.Mat, b []api.Wide) bool {
	t.Helper()
	oldA, oldB := copyOf(a), copyOfList(b)
	x, solved := lattice.Solve(a, b)
	y, m, refuted := lattice.Refute(a, b)
	if !same(a, oldA) || !sameList(b, oldB) {
		t.Fatalf("%s: Solve or Refute changes its arguments", name)
	}
	if solved == refuted {
		t.Fatalf("%s: %s, %s: Solve %v, Refute %v", name, show(a), showList(b), solved, refuted)
	}
	if solved && (!isSolution(a, x, b) || !isCanonical(x)) {
		t.Fatalf("%s: Solve of %s, %s: %s", name, show(a), showList(b), showList(x))
	}
	if refuted && (!isRefutation(a, b, y, m) || !isCanonical(y) || !isCanonical([]api.Wide{m})) {
		t.Fatalf("%s: Refute of %s, %s: %s, %s", name, show(a), showList(b), showList(y), wide.Text(m))
	}
	if !solved && len(x) > 0 || !refuted && (len(y) > 0 || m != api.Wide{}) {
		t.Fatalf("%s: %s, %s: with false, there is x = %s, y = %s, m = %s", name, show(a), showList(b), showList(x), showList(y), wide.Text(m))
	}
	expectSolution(t, name, a, x, b, solved)
	expectRefutation(t, name, a, b, y, m, refuted)
	return solved
}

// expectSolved fails the test if there is a solution, and should not be one, or the other way round.
func expectSolved(t *testing.T, name string, a api.Mat, b []api.Wide, want bool) {
	t.Helper()
	if expectAnswer(t, name, a, b) != want {
		t.Fatalf("%s: Solve of %s, %s: %v", name, show(a), showList(b), !want)
	}
}

// expectNoAnswer fails the test if Solve or Refute do not return false and zero values.
func expectNoAnswer(t *testing.T, name string, a api.Mat, b []api.Wide) {
	t.Helper()
	oldA, oldB := copyOf(a), copyOfList(b)
	if x, ok := lattice.Solve(a, b); ok || len(x) > 0 {
		t.Fatalf("%s: Solve of %s, %s: %s, %v", name, show(a), showList(b), showList(x), ok)
	}
	if y, m, ok := lattice.Refute(a, b); ok || len(y) > 0 || (m != api.Wide{}) {
		t.Fatalf("%s: Refute of %s, %s: %s, %s, %v", name, show(a), showList(b), showList(y), wide.Text(m), ok)
	}
	if !same(a, oldA) || !sameList(b, oldB) {
		t.Fatalf("%s: Solve or Refute changes its arguments", name)
	}
}

// P4.2

func TestSolveAndRefuteExamples(t *testing.T) {
	for _, x := range []struct {
		rows [][]int
		b    []int
		want bool
	}{
		{[][]int{{2, 4}}, []int{6}, true},
		{[][]int{{2, 4}}, []int{5}, false},
		{[][]int{{2, 4}}, []int{-2}, true},
		{[][]int{{2, 4}}, []int{-1}, false},
		{[][]int{{2, 4}}, []int{0}, true},
		{[][]int{{1, 0}, {1, 0}}, []int{1, 2}, false},
		{[][]int{{1, 0}, {1, 0}}, []int{2, 2}, true},
		{[][]int{{6, 10, 15}}, []int{1}, true},
		{[][]int{{6, 10, 14}}, []int{1}, false},
		{[][]int{{1, 2}, {3, 4}}, []int{0, 1}, false},
		{[][]int{{1, 2}, {3, 4}}, []int{0, 2}, true},
		{[][]int{{2, 0}, {0, 3}}, []int{4, 9}, true},
		{[][]int{{2, 0}, {0, 3}}, []int{4, 8}, false},
		{[][]int{{2, 0}, {0, 3}}, []int{3, 9}, false},
		{[][]int{{2, 1}, {0, 3}}, []int{3, 3}, true},
		{[][]int{{0}}, []int{0}, true},
		{[][]int{{0}}, []int{1}, false},
		{[][]int{{0}, {2}}, []int{0, 2}, true},
		{[][]int{{0}, {2}}, []int{1, 2}, false},
		{[][]int{{0}, {2}}, []int{0, 1}, false},
		{[][]int{{2}, {3}}, []int{4, 6}, true},
		{[][]int{{2}, {3}}, []int{3, 4}, false},
		{[][]int{{2}, {3}}, []int{1, 0}, false},
		{[][]int{{1, 1, 1}, {1, 2, 3}, {2, 3, 4}}, []int{1, 1, 2}, true},
		{[][]int{{1, 1, 1}, {1, 2, 3}, {2, 3, 4}}, []int{1, 1, 3}, false},
		{[][]int{{2, 2, 2}, {1, 2, 3}, {3, 4, 5}}, []int{1, 1, 2}, false},
		{[][]int{{math.MaxInt, math.MinInt}}, []int{7}, true},
		{[][]int{{math.MinInt}}, []int{math.MinInt}, true},
		{[][]int{{math.MinInt}}, []int{math.MaxInt}, false},
		{[][]int{{-3}}, []int{9}, true},
		{[][]int{{-3}}, []int{-10}, false},
	} {
		expectSolved(t, "example", matrix.Of(x.rows), numbers(x.b...), x.want)
	}
}

// TestSolveAllSmallSystems has products with numbers near 0, and numbers that may not be such products.
func TestSolveAllSmallSystems(t *testing.T) {
	for code := range 4 * 4 * 4 * 4 {
		var e []int
		for n := code; len(e) < 4; n /= 4 {
			e = append(e, []int{-2, 0, 1, 3}[n%4])
		}
		a := matrix.Of([][]int{e[:2], e[2:]})
		near := map[[2]api.Wide]bool{}
		for place := range 81 {
			b := multiplied(t, a, columnMatrix(numbers(place%9-4, place/9-4))).E
			near[[2]api.Wide{b[0], b[1]}] = true
		}
		for place := range 13 { // the others are the negative ones of these
			b := numbers(place%5-2, place/5-2)
			if solved := expectAnswer(t, "small system", a, b); near[[2]api.Wide{b[0], b[1]}] && !solved {
				t.Fatalf("Solve of %s, %s: false", show(a), showList(b))
			}
		}
	}
}

func TestSolveProducts(t *testing.T) {
	g := generator(11)
	for _, s := range shapes() {
		for _, most := range []int{1, 9, 1 << 20, 1 << 61} {
			for _, zeros := range []int{2, 5, 1000} {
				a := g.matrix(s.rows, s.cols, most, zeros)
				b := multiplied(t, a, columnMatrix(g.list(s.cols, most))).E
				expectSolved(t, "product", a, b, true)
				expectAnswer(t, "product and numbers", a, g.list(s.rows, most))
				for i := range b {
					b[i] = wide.Add(b[i], wide.From(1))
					expectAnswer(t, "product and 1", a, b)
				}
			}
		}
	}
}

// TestRefuteMultiples has matrices with common divisors of a row, and numbers that they do not divide.
func TestRefuteMultiples(t *testing.T) {
	g := generator(12)
	for _, s := range shapes() {
		for _, divisor := range []int{2, 6, 1 << 40, 997} {
			for i := range s.rows {
				a := g.matrix(s.rows, s.cols, 9, 6)
				for j := range s.cols {
					a.E[i*s.cols+j] = wide.Mul(a.E[i*s.cols+j], wide.From(divisor))
				}
				p := g.unimodular(t, s.rows, 2)
				b := multiplied(t, a, columnMatrix(g.list(s.cols, 9)))
				expectSolved(t, "multiples", multiplied(t, p, a), multiplied(t, p, b).E, true)
				b.E[i] = wide.Add(b.E[i], wide.From(1+g.below(divisor-1)))
				expectSolved(t, "not a multiple", multiplied(t, p, a), multiplied(t, p, b).E, false)
			}
		}
	}
}

// TestRefuteDependentRows has rows that are sums of others, and numbers that are not.
func TestRefuteDependentRows(t *testing.T) {
	g := generator(13)
	for _, s := range shapes() {
		for rank := range min(s.rows, s.cols) {
			for _, most := range []int{1, 5, 1 << 30} {
				p := g.unimodular(t, s.rows, 2)
				a := g.matrix(s.rows, s.cols, most, 6)
				for place := rank * s.cols; place < len(a.E); place++ {
					a.E[place] = api.Wide{}
				}
				b := multiplied(t, a, columnMatrix(g.list(s.cols, 9)))
				expectSolved(t, "dependent rows", multiplied(t, p, a), multiplied(t, p, b).E, true)
				b.E[rank+g.below(s.rows-rank)] = wide.From(1 + g.below(most))
				expectSolved(t, "dependent rows, and others", multiplied(t, p, a), multiplied(t, p, b).E, false)
			}
		}
	}
}

func TestSolveLongNumbers(t *testing.T) {
	g := generator(14)
	for _, s := range shapes() {
		for _, digits := range []int{2, 12} {
			a := g.long(s.rows, s.cols, digits)
			expectAnswer(t, "long numbers", a, g.long(s.rows, 1, digits).E)
			b := multiplied(t, a, g.long(s.cols, 1, 2*digits))
			expectSolved(t, "long product", a, b.E, true)
			expectAnswer(t, "long b", g.matrix(s.rows, s.cols, 5, 4), b.E)
		}
	}
}

func TestSolveWithoutRowsOrColumns(t *testing.T) {
	for _, n := range []int{1, 3, 200} {
		zeros := make([]api.Wide, n)
		last := append(make([]api.Wide, n-1), wide.From(-4))
		expectSolved(t, "columns alone", api.Mat{Cols: n}, nil, true)
		expectSolved(t, "rows alone", api.Mat{Rows: n}, zeros, true)
		expectSolved(t, "rows alone, b is not 0", api.Mat{Rows: n}, last, false)
		expectSolved(t, "zeros", matrix.Zero(n, n), zeros, true)
		expectSolved(t, "zeros, b is not 0", matrix.Zero(n, n), last, false)
		expectSolved(t, "unit matrix", matrix.One(n), last, true)
		expectNoAnswer(t, "columns alone, with b", api.Mat{Cols: n}, zeros)
		expectNoAnswer(t, "rows alone, without b", api.Mat{Rows: n}, nil)
	}
	expectSolved(t, "nothing", api.Mat{}, nil, true)
	expectSolved(t, "nothing, with empty lists", api.Mat{E: []api.Wide{}}, []api.Wide{}, true)
	expectNoAnswer(t, "nothing, with b", api.Mat{}, numbers(0))
}

func TestSolveManyEquations(t *testing.T) {
	g := generator(15)
	for _, s := range []shape{{30, 30}, {15, 40}, {40, 15}} {
		a := g.matrix(s.rows, s.cols, 5, 1000)
		expectSolved(t, "many equations", a, multiplied(t, a, columnMatrix(g.list(s.cols, 9))).E, true)
		expectAnswer(t, "many equations", a, g.list(s.rows, 9))
	}
	circle := matrix.Zero(200, 200)
	for j := range 200 { // each column is the boundary of an edge of a circle
		circle.E[j*200+j] = wide.From(-1)
		circle.E[(j+1)%200*200+j] = wide.From(1)
	}
	b := make([]api.Wide, 200)
	b[7], b[100] = wide.From(1), wide.From(-1)
	expectSolved(t, "two points of a circle", circle, b, true)
	b[100] = wide.From(-2)
	expectSolved(t, "three points of a circle", circle, b, false)
}

// TestSolveCountsBByItsValue has numbers that are not canonical in b.
func TestSolveCountsBByItsValue(t *testing.T) {
	g := generator(16)
	for _, s := range shapes() {
		a := g.matrix(s.rows, s.cols, 3, 3)
		for _, b := range [][]api.Wide{make([]api.Wide, s.rows), g.list(s.rows, 4), g.long(s.rows, 1, 3).E} {
			x, solved := lattice.Solve(a, b)
			y, m, refuted := lattice.Refute(a, b)
			expectSolved(t, "disguised b", a, disguised(b), solved)
			otherX, _ := lattice.Solve(a, disguised(b))
			otherY, otherM, _ := lattice.Refute(a, disguised(b))
			if solved == refuted || !sameList(x, otherX) || !sameList(y, otherY) || m != otherM {
				t.Errorf("%s, %s: another answer, if the numbers are not canonical", show(a), showList(b))
			}
		}
	}
	for _, n := range wrongNumbers() {
		expectAnswer(t, "wrong number", matrix.One(1), []api.Wide{n})
		expectAnswer(t, "wrong number", matrix.Of([][]int{{2}, {2}}), []api.Wide{n, wide.From(1)})
	}
}

func TestSolveOtherArguments(t *testing.T) {
	for name, a := range wrongMatrices() {
		for _, n := range []int{0, 1, 2, 3, 200, 201} {
			expectNoAnswer(t, name, a, make([]api.Wide, n))
			expectNoAnswer(t, name, a, append(make([]api.Wide, n), wide.From(1))[1:])
		}
	}
	for n := range 6 {
		if n != 3 {
			expectNoAnswer(t, "another number of rows", matrix.Of([][]int{{1, 0}, {0, 1}, {1, 1}}), make([]api.Wide, n))
		}
	}
	expectNoAnswer(t, "far too many numbers", matrix.One(2), make([]api.Wide, 100000))
}

// R3 and R4: results have memory of their own, and are the same for the same arguments.

func TestAnswersShareNoMemory(t *testing.T) {
	for _, a := range []api.Mat{matrix.One(3), matrix.Zero(3, 3), diagonal(3, 3, 1, 2, 6), matrix.Of([][]int{{2, 4}, {6, 8}, {1, 3}})} {
		for _, b := range [][]api.Wide{numbers(1, 1, 1), numbers(2, 6, 1), numbers(0, 0, 0), numbers(1, 2, 6)} {
			oldA, oldB := copyOf(a), copyOfList(b)
			x, _ := lattice.Solve(a, b)
			y, m, _ := lattice.Refute(a, b)
			wantX, wantY := copyOfList(x), copyOfList(y)
			overwrite(x)
			overwrite(y)
			newX, _ := lattice.Solve(copyOf(a), copyOfList(b))
			newY, newM, _ := lattice.Refute(copyOf(a), copyOfList(b))
			if !same(a, oldA) || !sameList(b, oldB) {
				t.Errorf("%s, %s: a result shares memory with an argument", show(oldA), showList(oldB))
			}
			if !sameList(newX, wantX) || !sameList(newY, wantY) || newM != m {
				t.Errorf("%s, %s: other results for the same arguments", show(oldA), showList(oldB))
			}
		}
	}
}
