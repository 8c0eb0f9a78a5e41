package lattice_test

import (
	"math"
	"testing"

	"cocycle/api"
	"cocycle/lattice"
	"cocycle/matrix"
	"cocycle/smith"
	"cocycle/wide"
)

// expectKernel fails the test if Kernel of a right matrix is not what the chapter says, and returns it. The columns of a matrix are a basis of all x with a x = 0 if these are among them, the columns are linearly independent, as many as there are columns of a less its rank, and their lattice is saturated, that is, their matrix has no factors but 1.
func expectKernel(t *testing.T, name string, a api.Mat) api.Mat {
	t.Helper()
	old := copyOf(a)
	k := lattice.Kernel(a)
	if !same(a, old) {
		t.Fatalf("%s: Kernel changes %s", name, show(old))
	}
	if !matrix.Right(k) || k.Rows != a.Cols || k.Cols != a.Cols-smith.Rank(a) {
		t.Fatalf("%s: Kernel of %s: %s", name, show(a), show(k))
	}
	product := multiplied(t, a, k)
	if !matrix.Equal(product, matrix.Zero(a.Rows, k.Cols)) {
		t.Fatalf("%s: the product of %s and its Kernel %s is %s", name, show(a), show(k), show(product))
	}
	factors := smith.Factors(k)
	if len(factors) != k.Cols {
		t.Fatalf("%s: the columns of the Kernel %s of %s are dependent", name, show(k), show(a))
	}
	for _, n := range factors {
		if n != wide.From(1) {
			t.Fatalf("%s: the Kernel %s of %s is not saturated", name, show(k), show(a))
		}
	}
	return k
}

// P4.1

func TestKernelExamples(t *testing.T) {
	for _, x := range []struct {
		rows, basis [][]int // basis: rows
	}{
		{[][]int{{1, 2, 3}}, [][]int{{2, -1, 0}, {3, 0, -1}}},
		{[][]int{{2, 4, 6}}, [][]int{{2, -1, 0}, {3, 0, -1}}},
		{[][]int{{2, 4, 6}}, [][]int{{1, 1, -1}, {2, -1, 0}}},
		{[][]int{{2, 4}}, [][]int{{2, -1}}},
		{[][]int{{6, 10, 15}}, [][]int{{5, -3, 0}, {0, 3, -2}}},
		{[][]int{{1, 1, 0}, {0, 1, 1}}, [][]int{{1, -1, 1}}},
		{[][]int{{1, 1, 0}, {0, 1, 1}, {1, 2, 1}}, [][]int{{-1, 1, -1}}},
		{[][]int{{0, 0}}, [][]int{{1, 0}, {0, 1}}},
		{[][]int{{0, 3}}, [][]int{{1, 0}}},
		{[][]int{{-1, -1, 0, 0, -1, -1}, {1, 1, -1, -1, 0, 0}, {0, 0, 1, 1, 1, 1}}, [][]int{{1, -1, 0, 0, 0, 0}, {0, 0, 1, -1, 0, 0}, {0, 0, 0, 0, 1, -1}, {1, 0, 1, 0, -1, 0}}}, // the edges of the projective plane of chapter 8
		{[][]int{{1, 1, 0, 0}, {0, 0, 1, 1}, {1, 0, 1, 0}, {0, 1, 0, 1}, {-1, 0, 0, -1}, {0, -1, -1, 0}}, nil},
		{[][]int{{1, 0}, {0, 1}}, nil},
		{[][]int{{7}}, nil},
	} {
		a := matrix.Of(x.rows)
		k := expectKernel(t, "example", a)
		if k.Cols != len(x.basis) {
			t.Errorf("Kernel of %s: %s", show(a), show(k))
		}
		for _, v := range x.basis {
			expectSolved(t, "element of the basis", k, numbers(v...), true)
		}
		if len(x.basis) > 0 {
			basis := matrix.Transpose(matrix.Of(x.basis))
			for j := range k.Cols {
				expectSolved(t, "column of the kernel", basis, columnOf(k, j), true)
			}
		}
	}
}

// TestKernelOfAllSmallMatrices has all x near 0.
func TestKernelOfAllSmallMatrices(t *testing.T) {
	for code := range 3 * 3 * 3 * 3 * 3 * 3 {
		var e []int
		for n := code; len(e) < 6; n /= 3 {
			e = append(e, []int{-1, 0, 2}[n%3])
		}
		a := matrix.Of([][]int{e[:3], e[3:]})
		k := expectKernel(t, "2 x 3", a)
		for place := range 14 { // the others are the negative ones of these
			x := numbers(place%3-1, place/3%3-1, place/9-1)
			zero := sameList(multiplied(t, a, columnMatrix(x)).E, numbers(0, 0))
			expectSolved(t, "x near 0", k, x, zero)
		}
		expectKernel(t, "3 x 2", matrix.Transpose(a))
	}
}

func TestKernelOfShapes(t *testing.T) {
	g := generator(21)
	for _, s := range shapes() {
		for _, most := range []int{0, 1, 12, 1 << 30, 1 << 62} {
			for _, zeros := range []int{2, 5, 1000} {
				a := g.matrix(s.rows, s.cols, most, zeros)
				k := expectKernel(t, "shape", a)
				if k.Cols != s.cols-rankOf(a) {
					t.Errorf("Kernel of %s: %s", show(a), show(k))
				}
			}
		}
		expectKernel(t, "long numbers", g.long(s.rows, s.cols, 10))
		for rank := range min(s.rows, s.cols) {
			a := multiplied(t, g.matrix(s.rows, rank, 6, 1000), g.matrix(rank, s.cols, 6, 1000))
			if k := expectKernel(t, "dependent rows", a); rankOf(k) != s.cols-rankOf(a) {
				t.Errorf("Kernel of %s: %s", show(a), show(k))
			}
		}
	}
}

// TestKernelIsSaturated has matrices with multiples alone.
func TestKernelIsSaturated(t *testing.T) {
	g := generator(22)
	for _, factor := range []int{2, 12, 997, math.MaxInt} {
		a := g.matrix(2, 4, 9, 1000)
		k := expectKernel(t, "matrix", a)
		for i, n := range a.E {
			a.E[i] = wide.Mul(n, wide.From(factor))
		}
		multiple := expectKernel(t, "multiple", a)
		for j := range k.Cols {
			expectSolved(t, "the same lattice", k, columnOf(multiple, j), true)
			expectSolved(t, "the same lattice", multiple, columnOf(k, j), true)
		}
	}
}

func TestKernelWithoutRowsOrColumns(t *testing.T) {
	for _, n := range []int{1, 2, 200} {
		for name, a := range map[string]api.Mat{"columns alone": {Cols: n}, "a row of zeros": matrix.Zero(1, n), "zeros": matrix.Zero(n, n)} {
			if k := expectKernel(t, name, a); k.Cols != n {
				t.Errorf("%s: %d columns, want %d", name, k.Cols, n)
			}
		}
		if k := expectKernel(t, "rows alone", api.Mat{Rows: n}); !same(k, api.Mat{}) {
			t.Errorf("Kernel of a matrix with %d rows and no columns: %s", n, show(k))
		}
		if k := expectKernel(t, "unit matrix", matrix.One(n)); !same(k, api.Mat{Rows: n}) {
			t.Errorf("Kernel of the unit matrix with %d rows: %s", n, show(k))
		}
	}
	expectKernel(t, "nothing", api.Mat{})
	expectKernel(t, "nothing, with an empty list", api.Mat{E: []api.Wide{}})
}

func TestKernelOfManyColumns(t *testing.T) {
	g := generator(23)
	for _, s := range []shape{{20, 40}, {10, 80}, {40, 20}} {
		expectKernel(t, "many numbers", g.matrix(s.rows, s.cols, 5, 1000))
	}
	expectKernel(t, "a row", g.matrix(1, 200, 100, 1000))
	expectKernel(t, "many zeros", g.matrix(60, 60, 1, 12))
	complete := matrix.Zero(20, 190) // the edges of the complete graph with 20 vertices
	for column, i := 0, 0; i < 20; i++ {
		for j := range i {
			complete.E[j*190+column], complete.E[i*190+column] = wide.From(-1), wide.From(1)
			column++
		}
	}
	if k := expectKernel(t, "complete graph", complete); k.Cols != 190-19 {
		t.Errorf("the complete graph with 20 vertices has %d circles", k.Cols)
	}
}

func TestKernelOfMatricesThatAreNotRight(t *testing.T) {
	for name, a := range wrongMatrices() {
		old := copyOf(a)
		if k := lattice.Kernel(a); !same(k, api.Mat{}) {
			t.Errorf("Kernel of a matrix with %s: %s", name, show(k))
		}
		if !same(a, old) {
			t.Errorf("Kernel changes a matrix with %s", name)
		}
	}
}

func TestKernelSharesNoMemory(t *testing.T) {
	for _, a := range []api.Mat{matrix.Zero(2, 2), matrix.Of([][]int{{1, 2, 3}}), matrix.Of([][]int{{0, 1}})} {
		old := copyOf(a)
		k := lattice.Kernel(a)
		want := copyOf(k)
		overwrite(k.E)
		if !same(a, old) || !same(lattice.Kernel(a), want) {
			t.Errorf("Kernel of %s shares memory", show(old))
		}
	}
}

// P4.5, for Kernel and Solve

func TestSolutionsDifferByTheKernel(t *testing.T) {
	g := generator(24)
	for _, s := range shapes() {
		for range 10 {
			a := g.matrix(s.rows, s.cols, 4, 3)
			k := lattice.Kernel(a)
			want := g.list(s.cols, 9)
			b := multiplied(t, a, columnMatrix(want)).E
			x, ok := lattice.Solve(a, b)
			if !ok {
				t.Fatalf("Solve of %s, %s: false", show(a), showList(b))
			}
			other, _ := matrix.Add(columnMatrix(x), multiplied(t, k, columnMatrix(g.list(k.Cols, 9))))
			expectSolution(t, "solution and a combination of the kernel", a, other.E, b, true)
			difference, _ := matrix.Sub(columnMatrix(x), columnMatrix(want))
			expectSolved(t, "difference of solutions", k, difference.E, true)
		}
	}
}
