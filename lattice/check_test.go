package lattice_test

import (
	"strings"
	"testing"

	"cocycle/api"
	"cocycle/lattice"
	"cocycle/matrix"
	"cocycle/wide"
)

// P4.3: these tests do not use Solve or Refute.

// expectSolution fails the test if CheckSolution does not return what is wanted, or changes its arguments.
func expectSolution(t *testing.T, name string, a api.Mat, x, b []api.Wide, want bool) {
	t.Helper()
	oldA, oldX, oldB := copyOf(a), copyOfList(x), copyOfList(b)
	if lattice.CheckSolution(a, x, b) != want {
		t.Fatalf("%s: CheckSolution of %s, %s, %s: %v", name, show(a), showList(x), showList(b), !want)
	}
	if !same(a, oldA) || !sameList(x, oldX) || !sameList(b, oldB) {
		t.Fatalf("%s: CheckSolution changes its arguments", name)
	}
}

// expectRefutation fails the test if CheckRefutation does not return what is wanted, or changes its arguments.
func expectRefutation(t *testing.T, name string, a api.Mat, b, y []api.Wide, m api.Wide, want bool) {
	t.Helper()
	oldA, oldB, oldY := copyOf(a), copyOfList(b), copyOfList(y)
	if lattice.CheckRefutation(a, b, y, m) != want {
		t.Fatalf("%s: CheckRefutation of %s, %s, %s, %s: %v", name, show(a), showList(b), showList(y), wide.Text(m), !want)
	}
	if !same(a, oldA) || !sameList(b, oldB) || !sameList(y, oldY) {
		t.Fatalf("%s: CheckRefutation changes its arguments", name)
	}
}

func TestCheckSolutionOfExamples(t *testing.T) {
	row := matrix.Of([][]int{{2, 4}})
	square := matrix.Of([][]int{{1, 2}, {3, 4}})
	for _, x := range []struct {
		a    api.Mat
		x, b []int
		want bool
	}{
		{row, []int{3, 0}, []int{6}, true},
		{row, []int{1, 1}, []int{6}, true},
		{row, []int{-1, 2}, []int{6}, true},
		{row, []int{1, 1}, []int{5}, false},
		{row, []int{1, 1}, []int{-6}, false},
		{row, []int{0, 0}, []int{0}, true},
		{row, []int{2, -1}, []int{0}, true},
		{row, []int{3}, []int{6}, false},
		{row, []int{3, 0, 0}, []int{6}, false},
		{row, []int{}, []int{6}, false},
		{row, []int{}, []int{0}, false},
		{row, []int{3, 0}, []int{6, 0}, false},
		{row, []int{3, 0}, []int{6, 6}, false},
		{row, []int{0, 0}, []int{}, false},
		{square, []int{5, -1}, []int{3, 11}, true},
		{square, []int{5, -1}, []int{3, 12}, false},
		{square, []int{5, -1}, []int{2, 11}, false},
		{square, []int{5, -1}, []int{11, 3}, false},
		{square, []int{-1, 5}, []int{3, 11}, false},
		{square, []int{5, -1}, []int{3}, false},
		{square, []int{5, -1}, []int{3, 11, 0}, false},
		{matrix.Transpose(square), []int{5, -1}, []int{2, 6}, true},
		{matrix.Transpose(square), []int{5, -1}, []int{3, 11}, false},
	} {
		expectSolution(t, "example", x.a, numbers(x.x...), numbers(x.b...), x.want)
	}
}

func TestCheckRefutationOfExamples(t *testing.T) {
	row := matrix.Of([][]int{{2, 4}})
	twice := matrix.Of([][]int{{1, 0}, {1, 0}})
	square := matrix.Of([][]int{{1, 2}, {3, 4}})
	for _, x := range []struct {
		a    api.Mat
		b, y []int
		m    int
		want bool
	}{
		{row, []int{5}, []int{1}, 2, true},
		{row, []int{5}, []int{-1}, 2, true},
		{row, []int{5}, []int{3}, 2, true},
		{row, []int{5}, []int{3}, 6, true},
		{row, []int{5}, []int{2}, 4, true},
		{row, []int{5}, []int{2}, 2, false},
		{row, []int{6}, []int{1}, 2, false},
		{row, []int{5}, []int{1}, 3, false},
		{row, []int{5}, []int{1}, 4, false}, // divides only the second element
		{row, []int{5}, []int{1}, 1, false},
		{row, []int{5}, []int{1}, 0, false},
		{row, []int{5}, []int{1}, -2, false},
		{row, []int{5}, []int{0}, 2, false},
		{row, []int{5}, []int{0}, 0, false},
		{row, []int{0}, []int{1}, 2, false},
		{row, []int{5}, []int{}, 2, false},
		{row, []int{5}, []int{1, 0}, 2, false},
		{row, []int{5, 5}, []int{1}, 2, false},
		{row, []int{}, []int{1}, 2, false},
		{row, []int{}, []int{}, 2, false},
		{twice, []int{1, 2}, []int{-1, 1}, 0, true},
		{twice, []int{1, 2}, []int{1, -1}, 0, true},
		{twice, []int{1, 2}, []int{-1, 1}, 2, true}, // 0 is divisible by 2
		{twice, []int{1, 2}, []int{-1, 1}, 1, false},
		{twice, []int{1, 3}, []int{-1, 1}, 2, false},
		{twice, []int{1, 3}, []int{-1, 1}, 3, true},
		{twice, []int{2, 2}, []int{-1, 1}, 0, false},
		{twice, []int{1, 2}, []int{1, 1}, 0, false},
		{twice, []int{1, 2}, []int{1, 1}, 2, true},
		{twice, []int{1, 2}, []int{0, 0}, 0, false},
		{twice, []int{1, 2}, []int{-1}, 0, false},
		{twice, []int{1, 2}, []int{-1, 1, 0}, 0, false},
		{twice, []int{1, 2, 0}, []int{-1, 1}, 0, false},
		{square, []int{0, 1}, []int{1, 1}, 2, true}, // y a is 4, 6, and y b is 1
		{square, []int{1, 1}, []int{1, 1}, 2, false},
		{square, []int{0, 1}, []int{3, -1}, 2, true}, // y a is 0, 2, and y b is -1
		{square, []int{1, 0}, []int{3, -1}, 3, false},
		{square, []int{1, 0}, []int{1, 0}, 2, false},
	} {
		expectRefutation(t, "example", x.a, numbers(x.b...), numbers(x.y...), wide.From(x.m), x.want)
	}
}

// TestCheckOfAllShortLists compares with the words of the chapter, for all lists of numbers near 0.
func TestCheckOfAllShortLists(t *testing.T) {
	var lists [][]api.Wide
	for code := range 49 {
		lists = append(lists, numbers(code%7-3, code/7-3))
	}
	for _, rows := range [][][]int{{{2, 4}, {0, 2}}, {{1, 2}, {2, 4}}, {{0, 0}, {0, 0}}, {{0, 3}, {0, -6}}, {{-2, 0}, {0, 3}}} {
		a := matrix.Of(rows)
		for _, x := range lists {
			for k, b := range lists {
				expectSolution(t, "short lists", a, x, b, isSolution(a, x, b))
				m := wide.From(k%9 - 2)
				expectRefutation(t, "short lists", a, b, x, m, isRefutation(a, b, x, m))
			}
		}
	}
}

func TestCheckOfProducts(t *testing.T) {
	g := generator(1)
	for _, s := range shapes() {
		for _, most := range []int{2, 50, 1 << 60} {
			a := g.matrix(s.rows, s.cols, most, 4)
			x := g.list(s.cols, most)
			b := multiplied(t, a, columnMatrix(x)).E
			expectSolution(t, "product", a, x, b, true)
			for i := range b {
				c := copyOfList(b)
				c[i] = wide.Add(c[i], wide.From(1))
				expectSolution(t, "product with another number", a, x, c, false)
				expectSolution(t, "product with a number too few", a, x, b[1:], false)
			}
			expectSolution(t, "product with a number too many", a, x, append(copyOfList(b), api.Wide{}), false)
			expectSolution(t, "x with a number too many", a, append(copyOfList(x), api.Wide{}), b, false)
			if len(x) > 0 {
				expectSolution(t, "x with a number too few", a, x[1:], b, false)
			}
		}
	}
}

// TestCheckRefutationOfMultiples has y a with multiples of m alone, so that all depends on y b.
func TestCheckRefutationOfMultiples(t *testing.T) {
	g := generator(2)
	long := g.long(1, 1, 5).E[0]
	long.Neg = false
	for _, m := range []api.Wide{{}, wide.From(1), wide.From(2), wide.From(12), wide.From(1 << 62), long} {
		for _, s := range []shape{{1, 1}, {1, 4}, {3, 1}, {3, 5}} {
			a := g.matrix(s.rows, s.cols, 9, 4)
			for j := range s.cols { // the sum of the rows
				sum := wide.Mul(m, wide.From(g.between(5)))
				for i := range s.rows - 1 {
					sum = wide.Sub(sum, a.E[i*s.cols+j])
				}
				a.E[(s.rows-1)*s.cols+j] = sum
			}
			y := g.list(s.rows, 0)
			for i := range y {
				y[i] = wide.From(1)
			}
			b := g.list(s.rows, 20)
			expectRefutation(t, "multiples", a, b, y, m, isRefutation(a, b, y, m))
			b[0] = wide.Sub(b[0], multiplied(t, api.Mat{Rows: 1, Cols: s.rows, E: y}, columnMatrix(b)).E[0])
			expectRefutation(t, "y b is 0", a, b, y, m, false)
			b[0] = wide.Add(b[0], m)
			expectRefutation(t, "y b is m", a, b, y, m, false)
			b[0] = wide.Add(b[0], wide.From(1))
			expectRefutation(t, "y b is m + 1", a, b, y, m, m != wide.From(1))
			expectRefutation(t, "y b is m + 1, and m is negative", a, b, y, wide.Neg(m), m == api.Wide{})
			expectRefutation(t, "a number too many", a, append(copyOfList(b), api.Wide{}), y, m, false)
			expectRefutation(t, "y with a number too many", a, b, append(copyOfList(y), api.Wide{}), m, false)
			expectRefutation(t, "y with a number too few", a, b, y[1:], m, false)
			expectRefutation(t, "without y", a, b, nil, m, false)
		}
	}
}

func TestCheckWithoutRowsOrColumns(t *testing.T) {
	for _, n := range []int{1, 3, 200} {
		zeros := make([]api.Wide, n)
		ones := append(numbers(1), zeros[1:]...)
		expectSolution(t, "columns alone", api.Mat{Cols: n}, ones, nil, true)
		expectSolution(t, "columns alone, without x", api.Mat{Cols: n}, nil, nil, false)
		expectSolution(t, "columns alone, with b", api.Mat{Cols: n}, ones, numbers(0), false)
		expectSolution(t, "rows alone", api.Mat{Rows: n}, nil, zeros, true)
		expectSolution(t, "rows alone, b is not 0", api.Mat{Rows: n}, []api.Wide{}, ones, false)
		expectSolution(t, "rows alone, with x", api.Mat{Rows: n}, numbers(0), zeros, false)
		expectRefutation(t, "rows alone", api.Mat{Rows: n}, ones, ones, api.Wide{}, true)
		expectRefutation(t, "rows alone", api.Mat{Rows: n}, ones, ones, wide.From(5), true)
		expectRefutation(t, "rows alone, modulo 1", api.Mat{Rows: n}, ones, ones, wide.From(1), false)
		expectRefutation(t, "rows alone, b is 0", api.Mat{Rows: n}, zeros, ones, api.Wide{}, false)
		expectRefutation(t, "rows alone, y is 0", api.Mat{Rows: n}, ones, zeros, api.Wide{}, false)
		expectRefutation(t, "columns alone", api.Mat{Cols: n}, nil, nil, wide.From(2), false)
		expectRefutation(t, "columns alone, with y", api.Mat{Cols: n}, nil, ones, wide.From(2), false)
	}
	expectSolution(t, "nothing", api.Mat{}, nil, nil, true)
	expectSolution(t, "nothing, with empty lists", api.Mat{E: []api.Wide{}}, []api.Wide{}, []api.Wide{}, true)
	expectSolution(t, "nothing, with x", api.Mat{}, numbers(0), nil, false)
	expectSolution(t, "nothing, with b", api.Mat{}, nil, numbers(0), false)
	expectRefutation(t, "nothing", api.Mat{}, nil, nil, api.Wide{}, false)
	expectRefutation(t, "nothing", api.Mat{}, nil, nil, wide.From(2), false)
	expectRefutation(t, "nothing, with b and y", api.Mat{}, numbers(1), numbers(1), api.Wide{}, false)
}

// TestCheckCountsListsByTheirValue has numbers in lists that are not canonical.
func TestCheckCountsListsByTheirValue(t *testing.T) {
	a := matrix.Of([][]int{{1, 0, 2}, {0, 300, 0}, {1, 0, 2}})
	x, b := numbers(5, -1, 0), numbers(5, -300, 5)
	expectSolution(t, "x", a, disguised(x), b, true)
	expectSolution(t, "b", a, x, disguised(b), true)
	expectSolution(t, "both", a, disguised(x), disguised(b), true)
	expectSolution(t, "another b", a, disguised(x), disguised(numbers(5, -300, 6)), false)
	y, b := numbers(0, 1, 0), numbers(0, 150, 7)
	m := wide.From(300)
	expectRefutation(t, "b", a, disguised(b), y, m, true)
	expectRefutation(t, "y", a, b, disguised(y), m, true)
	expectRefutation(t, "m", a, b, y, disguised([]api.Wide{m})[0], true)
	expectRefutation(t, "another b", a, disguised(numbers(0, 600, 7)), disguised(y), m, false)
	y = numbers(1, 0, -1)
	for _, zero := range []api.Wide{{}, {Neg: true}, {Mag: "\x00"}, {Neg: true, Mag: "\x00\x00"}} {
		expectRefutation(t, "m is 0", a, disguised(b), disguised(y), zero, true)
		expectRefutation(t, "m is 0, and y b, too", a, []api.Wide{zero, zero, zero}, disguised(y), zero, false)
		expectRefutation(t, "m is 0, and y, too", a, b, []api.Wide{zero, zero, zero}, zero, false)
		expectSolution(t, "zeros", matrix.One(2), []api.Wide{zero, zero}, numbers(0, 0), true)
		expectSolution(t, "zeros", matrix.One(2), numbers(0, 0), []api.Wide{zero, zero}, true)
	}
	for _, minus := range []api.Wide{{Neg: true, Mag: "\x00\x02"}, {Neg: true, Mag: "\x02"}} {
		expectRefutation(t, "m is -2", a, b, y, minus, false)
	}
	expectRefutation(t, "m is 2", a, b, y, api.Wide{Mag: "\x00\x02"}, true)
}

func TestCheckOfMatricesThatAreNotRight(t *testing.T) {
	for name, a := range wrongMatrices() {
		for _, n := range []int{0, 1, 2, 3, 201} {
			zeros := make([]api.Wide, n)
			ones := append(numbers(1), make([]api.Wide, 200)...)[:n]
			for _, cols := range []int{0, 1, 2, 3, 201} {
				expectSolution(t, name, a, make([]api.Wide, cols), zeros, false)
			}
			expectRefutation(t, name, a, ones, ones, api.Wide{}, false)
			expectRefutation(t, name, a, ones, ones, wide.From(2), false)
		}
	}
	values := api.Mat{Rows: 2, Cols: 2, E: disguised(numbers(1, 0, 0, 2))} // right, if elements counted by their value
	expectSolution(t, "values", values, numbers(3, 0), numbers(3, 0), false)
	expectRefutation(t, "values", values, numbers(0, 1), numbers(0, 1), wide.From(2), false)
}

// TestCheckOfLargeMatrices has matrices for which only multiplying, adding and dividing takes little time.
func TestCheckOfLargeMatrices(t *testing.T) {
	g := generator(3)
	a := g.long(200, 200, 2)
	x := g.long(200, 1, 3).E
	b := multiplied(t, a, columnMatrix(x)).E
	expectSolution(t, "large", a, x, b, true)
	b[199] = wide.Sub(b[199], wide.From(1))
	expectSolution(t, "large, with another number", a, x, b, false)
	for i, n := range a.E {
		a.E[i] = wide.Mul(n, wide.From(6))
	}
	b[0] = api.Wide{Mag: strings.Repeat("\xff", 100)} // 256^100 - 1 is divisible by 3, and odd
	expectRefutation(t, "large", a, b, append(numbers(1), make([]api.Wide, 199)...), wide.From(3), false)
	expectRefutation(t, "large", a, b, append(numbers(1), make([]api.Wide, 199)...), wide.From(2), true)
}
