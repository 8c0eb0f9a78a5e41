package matrix_test

import (
	"math"
	"math/big"
	"testing"

	"cocycle/api"
	"cocycle/matrix"
	"cocycle/wide"
)

// joined is what Join is compared with.
func joined(a, b api.Mat) api.Mat {
	return build(a.Rows, a.Cols+b.Cols, func(i, j int) *big.Int {
		if j < a.Cols {
			return element(a, i, j)
		}
		return element(b, i, j-a.Cols)
	})
}

// P2.4

func TestTranspose(t *testing.T) {
	g := generator(9)
	for _, a := range append(rightMatrices(), g.matrix(200, 199, 2)) {
		want := build(a.Cols, a.Rows, func(i, j int) *big.Int { return element(a, j, i) })
		expect(t, "Transpose of "+show(a), matrix.Transpose(a), want)
	}
	for name, a := range wrongMatrices() {
		expect(t, "Transpose of a matrix with "+name, matrix.Transpose(a), api.Mat{})
	}
}

func TestJoinOfManyColumns(t *testing.T) {
	g := generator(8)
	a := g.matrix(2, 150, 1)
	got, ok := matrix.Join(a, g.matrix(2, 51, 1))
	expectFalse(t, "Join to 201 columns", got, ok)
	b := g.matrix(2, 50, 1)
	got, ok = matrix.Join(a, b)
	expectTrue(t, "Join to 200 columns", got, ok, joined(a, b))
	got, ok = matrix.Join(api.Mat{Cols: 150}, api.Mat{Cols: 51})
	expectFalse(t, "Join to 201 columns without rows", got, ok)
	got, ok = matrix.Join(api.Mat{Cols: 150}, api.Mat{Cols: 50})
	expectTrue(t, "Join without rows", got, ok, api.Mat{Cols: 200})
	got, ok = matrix.Join(api.Mat{Rows: 3}, api.Mat{Rows: 3})
	expectTrue(t, "Join without columns", got, ok, api.Mat{Rows: 3})
	a = g.matrix(200, 200, 1)
	got, ok = matrix.Join(a, api.Mat{Rows: 200})
	expectTrue(t, "Join with nothing", got, ok, a)
	got, ok = matrix.Join(api.Mat{Rows: 200}, a)
	expectTrue(t, "Join of nothing", got, ok, a)
}

func TestPart(t *testing.T) {
	g := generator(7)
	for _, a := range []api.Mat{{}, {Rows: 2}, {Cols: 3}, g.matrix(1, 1, 1), g.matrix(3, 4, 2), g.matrix(4, 2, 20)} {
		for row := -1; row <= a.Rows+1; row++ {
			for col := -1; col <= a.Cols+1; col++ {
				testPartsFrom(t, a, row, col)
			}
		}
	}
}

// testPartsFrom compares all parts that begin at one place.
func testPartsFrom(t *testing.T, a api.Mat, row, col int) {
	t.Helper()
	for rows := -1; rows <= a.Rows+1; rows++ {
		for cols := -1; cols <= a.Cols+1; cols++ {
			got, ok := matrix.Part(a, row, col, rows, cols)
			if row < 0 || col < 0 || rows < 0 || cols < 0 || row+rows > a.Rows || col+cols > a.Cols {
				expectFalse(t, "Part outside of "+show(a), got, ok)
				continue
			}
			want := build(rows, cols, func(i, j int) *big.Int { return element(a, row+i, col+j) })
			expectTrue(t, "Part of "+show(a), got, ok, want)
		}
	}
}

func TestPartExample(t *testing.T) {
	got, ok := matrix.Part(matrix.Of([][]int{{1, 2, 3}, {4, 5, 6}}), 1, 1, 1, 2)
	expectTrue(t, "Part", got, ok, matrix.Of([][]int{{5, 6}}))
}

func TestPartOfManyRowsAndColumns(t *testing.T) {
	g := generator(4)
	a := g.matrix(200, 200, 1)
	got, ok := matrix.Part(a, 0, 0, 200, 200)
	expectTrue(t, "Part of all", got, ok, a)
	got, ok = matrix.Part(a, 199, 199, 1, 1)
	expectTrue(t, "Part of the last element", got, ok, api.Mat{Rows: 1, Cols: 1, E: a.E[len(a.E)-1:]})
	got, ok = matrix.Part(a, 200, 200, 0, 0)
	expectTrue(t, "Part of nothing", got, ok, api.Mat{})
	got, ok = matrix.Part(a, 0, 0, 201, 200)
	expectFalse(t, "Part with 201 rows", got, ok)
	got, ok = matrix.Part(a, 1, 0, 200, 200)
	expectFalse(t, "Part with a row behind the last one", got, ok)
}

// TestPartOfNumbersWhoseSumExceedsTheGreatestInt tries numbers whose sums wrap around to permitted ones.
func TestPartOfNumbersWhoseSumExceedsTheGreatestInt(t *testing.T) {
	extremes := []int{math.MaxInt, math.MaxInt - 1, math.MinInt, math.MinInt + 1, 1 << 62, -1 << 62, 1 << 32}
	for _, a := range []api.Mat{{}, {Rows: 2}, {Cols: 2}, matrix.One(2), matrix.Zero(200, 200)} {
		for _, x := range extremes {
			for _, y := range append([]int{-1, 0, 1, 2}, extremes...) {
				for _, n := range [][4]int{{x, 0, y, 0}, {y, 0, x, 0}, {0, x, 0, y}, {0, y, 0, x}, {x, x, y, y}, {y, y, x, x}} {
					got, ok := matrix.Part(a, n[0], n[1], n[2], n[3])
					expectFalse(t, "Part with great numbers", got, ok)
				}
			}
		}
	}
}

func TestPartOfWrongMatrices(t *testing.T) {
	for name, a := range wrongMatrices() {
		for _, x := range [][4]int{{0, 0, 0, 0}, {0, 0, 1, 1}, {0, 0, 2, 2}, {1, 1, 1, 1}, {-1, -1, 0, 0}, {0, 0, a.Rows, a.Cols}} {
			got, ok := matrix.Part(a, x[0], x[1], x[2], x[3])
			expectFalse(t, "Part of a matrix with "+name, got, ok)
		}
	}
}

// R3: arguments stay as they are, and results have memory of their own.

func TestResultsShareNoMemoryWithArguments(t *testing.T) {
	a, b := matrix.Of([][]int{{2, 1}, {1, 1}}), matrix.Of([][]int{{5, 0}, {0, 7}})
	one, x := matrix.One(2), []api.Wide{wide.From(3), wide.From(4)}
	first := func(m api.Mat, _ bool) []api.Wide { return m.E }
	applied, _ := matrix.Apply(one, x)
	results := map[string][]api.Wide{
		"Add":                 first(matrix.Add(a, b)),
		"Sub":                 first(matrix.Sub(a, b)),
		"Mul":                 first(matrix.Mul(a, one)),
		"Apply":               applied,
		"Transpose":           matrix.Transpose(b).E,
		"Join":                first(matrix.Join(a, b)),
		"Join with nothing":   first(matrix.Join(a, api.Mat{Rows: 2})),
		"Part":                first(matrix.Part(a, 0, 0, 2, 2)),
		"Part of one row":     first(matrix.Part(a, 0, 0, 1, 2)),
		"Inverse":             first(matrix.Inverse(a)),
		"Inverse of the unit": first(matrix.Inverse(one)),
		"the second unit":     matrix.One(2).E,
		"Zero":                matrix.Zero(2, 2).E,
	}
	for name, e := range results {
		full := e[:cap(e)]
		for i := range full {
			full[i] = wide.From(-99)
		}
		if !same(a, matrix.Of([][]int{{2, 1}, {1, 1}})) || !same(b, matrix.Of([][]int{{5, 0}, {0, 7}})) || !same(one, matrix.One(2)) || x[0] != wide.From(3) || x[1] != wide.From(4) {
			t.Fatalf("%s shares memory with an argument, or changes it", name)
		}
	}
}
