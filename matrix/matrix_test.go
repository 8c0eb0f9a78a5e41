package matrix_test

import (
	"math"
	"math/big"
	"slices"
	"testing"

	"cocycle/api"
	"cocycle/matrix"
	"cocycle/wide"
)

// P2.1

func TestOf(t *testing.T) {
	one, two, three := wide.From(1), wide.From(2), wide.From(3)
	for name, x := range map[string]struct {
		rows [][]int
		want api.Mat
	}{
		"nothing":                    {nil, api.Mat{}},
		"no rows":                    {[][]int{}, api.Mat{}},
		"an empty row":               {[][]int{{}}, api.Mat{Rows: 1}},
		"a nil row":                  {[][]int{nil, nil}, api.Mat{Rows: 2}},
		"the example":                {[][]int{{1, 2}, {3}}, api.Mat{Rows: 2, Cols: 2, E: []api.Wide{one, two, three, {}}}},
		"a longer row behind":        {[][]int{{1}, {}, {2, 3}}, api.Mat{Rows: 3, Cols: 2, E: []api.Wide{one, {}, {}, {}, two, three}}},
		"zeros":                      {[][]int{{0, 0}}, api.Mat{Rows: 1, Cols: 2, E: make([]api.Wide, 2)}},
		"the least and greatest int": {[][]int{{math.MinInt, math.MaxInt}}, api.Mat{Rows: 1, Cols: 2, E: []api.Wide{wide.Neg(power(63, 0)), power(63, -1)}}},
	} {
		expect(t, "Of "+name, matrix.Of(x.rows), x.want)
	}
}

func TestOfManyRows(t *testing.T) {
	rows := make([][]int, 200)
	for i := range rows {
		rows[i] = make([]int, i+1)
		rows[i][i] = i
	}
	want := build(200, 200, func(i, j int) *big.Int {
		if i != j {
			return new(big.Int)
		}
		return big.NewInt(int64(i))
	})
	expect(t, "Of 200 rows", matrix.Of(rows), want)
	expect(t, "Of 201 rows", matrix.Of(append(rows, []int{1})), api.Mat{})
	expect(t, "Of 200 empty rows", matrix.Of(make([][]int, 200)), api.Mat{Rows: 200})
	expect(t, "Of 201 empty rows", matrix.Of(make([][]int, 201)), api.Mat{})
	expect(t, "Of a row with 201 elements", matrix.Of([][]int{{1}, make([]int, 201), {2}}), api.Mat{})
	expect(t, "Of a row with 100000 elements", matrix.Of([][]int{make([]int, 100000)}), api.Mat{})
	expect(t, "Of 100000 rows", matrix.Of(make([][]int, 100000)), api.Mat{})
}

func TestOfKeepsItsArgument(t *testing.T) {
	long := []int{1, 2, 3}
	rows := [][]int{long[:1], {4, 5}}
	matrix.Of(rows)
	if len(rows) != 2 || len(rows[0]) != 1 || !slices.Equal(long, []int{1, 2, 3}) || !slices.Equal(rows[1], []int{4, 5}) {
		t.Errorf("Of changes its argument: %v", rows)
	}
}

func TestZero(t *testing.T) {
	for _, x := range [][2]int{{0, 0}, {0, 5}, {5, 0}, {1, 1}, {2, 3}, {3, 2}, {200, 200}, {0, 200}, {200, 0}} {
		expect(t, "Zero", matrix.Zero(x[0], x[1]), api.Mat{Rows: x[0], Cols: x[1], E: make([]api.Wide, x[0]*x[1])})
	}
	for _, n := range []int{-1, -200, 201, 1 << 32, math.MinInt, math.MaxInt} {
		for _, m := range []int{0, 1, 2, 200, 201, -1, n} {
			expect(t, "Zero of wrong numbers", matrix.Zero(n, m), api.Mat{})
			expect(t, "Zero of wrong numbers", matrix.Zero(m, n), api.Mat{})
		}
	}
}

func TestOne(t *testing.T) {
	for _, n := range []int{0, 1, 2, 3, 10, 199, 200} {
		want := build(n, n, func(i, j int) *big.Int {
			if i == j {
				return big.NewInt(1)
			}
			return new(big.Int)
		})
		expect(t, "One", matrix.One(n), want)
	}
	for _, n := range []int{-1, -200, 201, 1 << 32, math.MinInt, math.MaxInt} {
		expect(t, "One of a wrong number", matrix.One(n), api.Mat{})
	}
}

func TestAt(t *testing.T) {
	for _, a := range rightMatrices() {
		for i := range a.Rows {
			for j := range a.Cols {
				if x := matrix.At(a, i, j); x != a.E[i*a.Cols+j] {
					t.Fatalf("At(%s, %d, %d): %s", show(a), i, j, wide.Text(x))
				}
			}
		}
	}
}

func TestAtWhereThereIsNoElement(t *testing.T) {
	for _, a := range append(rightMatrices(), filled(2, 3, wide.From(9)), filled(200, 200, wide.From(9))) {
		for _, x := range [][2]int{{-1, 0}, {0, -1}, {-1, -1}, {a.Rows, 0}, {0, a.Cols}, {a.Rows - 1, a.Cols}, {a.Rows, -1}, {1, -1}, {a.Rows, a.Cols}, {math.MaxInt, 0}, {0, math.MaxInt}, {math.MinInt, 0}, {0, math.MinInt}, {math.MaxInt, math.MaxInt}, {1 << 62, 1}, {1 << 63 / 3, 1}} {
			if n := matrix.At(a, x[0], x[1]); n != (api.Wide{}) {
				t.Errorf("At(%s, %d, %d): %s", show(a), x[0], x[1], wide.Text(n))
			}
		}
	}
}

func TestAtOfWrongMatrices(t *testing.T) {
	for name, a := range wrongMatrices() {
		for _, x := range [][2]int{{0, 0}, {0, 1}, {1, 0}, {1, 1}, {-1, -1}, {a.Rows - 1, a.Cols - 1}, {a.Rows, a.Cols}} {
			if n := matrix.At(a, x[0], x[1]); n != (api.Wide{}) {
				t.Errorf("At of a matrix with %s: %#v", name, n)
			}
		}
	}
}

// P2.2

func TestRight(t *testing.T) {
	for _, a := range append(rightMatrices(), matrix.Zero(200, 200)) {
		if !matrix.Right(a) {
			t.Errorf("Right(%s): false", show(a))
		}
	}
	for name, a := range wrongMatrices() {
		if matrix.Right(a) {
			t.Errorf("Right of a matrix with %s: true", name)
		}
	}
}

func TestEqual(t *testing.T) {
	list := rightMatrices()
	for i, a := range list {
		for j, b := range list {
			if want := same(a, b); matrix.Equal(a, b) != want {
				t.Errorf("Equal of matrices %d and %d, %s and %s: %v", i, j, show(a), show(b), !want)
			}
		}
		if !matrix.Equal(a, copyOf(a)) {
			t.Errorf("Equal of %s and its copy: false", show(a))
		}
	}
}

func TestEqualOfMatricesThatDifferInOnePlace(t *testing.T) {
	a := matrix.Of([][]int{{1, 2, 3}, {4, 5, 6}})
	for i := range a.E {
		b := copyOf(a)
		b.E[i] = wide.Neg(b.E[i])
		if matrix.Equal(a, b) || matrix.Equal(b, a) {
			t.Errorf("Equal of %s and %s: true", show(a), show(b))
		}
	}
	for _, x := range [][2]api.Mat{
		{a, {Rows: 3, Cols: 2, E: a.E}},
		{{Rows: 1, Cols: 6, E: a.E}, {Rows: 6, Cols: 1, E: a.E}},
		{{Rows: 3}, {Cols: 3}},
		{{Rows: 3}, {}},
		{{Cols: 3}, {Cols: 4}},
	} {
		if matrix.Equal(x[0], x[1]) || matrix.Equal(x[1], x[0]) {
			t.Errorf("Equal of %s and %s: true", show(x[0]), show(x[1]))
		}
	}
}

func TestEqualOfWrongMatrices(t *testing.T) {
	for name, a := range wrongMatrices() {
		if matrix.Equal(a, a) || matrix.Equal(a, copyOf(a)) {
			t.Errorf("Equal of a matrix with %s and itself: true", name)
		}
		for _, b := range rightMatrices() {
			if matrix.Equal(a, b) || matrix.Equal(b, a) {
				t.Errorf("Equal of a matrix with %s and a right one: true", name)
			}
		}
	}
	// The same value, but not the same number.
	if matrix.Equal(matrix.Zero(1, 1), api.Mat{Rows: 1, Cols: 1, E: []api.Wide{{Neg: true}}}) {
		t.Error("Equal of 0 and -0: true")
	}
}
