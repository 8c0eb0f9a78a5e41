package field_test

import (
	"slices"
	"strconv"
	"testing"

	"cocycle/api"
	"cocycle/field"
)

// combinations visits all vectors of so many numbers from 0 to p - 1.
func combinations(p, count int) func(yield func(vector []int) bool) {
	return func(yield func(vector []int) bool) {
		vector := make([]int, count)
		for {
			if !yield(slices.Clone(vector)) {
				return
			}
			place := 0
			for place < count && vector[place] == p-1 {
				vector[place] = 0
				place++
			}
			if place == count {
				return
			}
			vector[place]++
		}
	}
}

// smallMatrices visits all matrices of some small shapes and primes.
func smallMatrices(yield func(a api.FMat) bool) {
	for _, x := range []struct {
		p int
		shape
	}{{2, shape{1, 1}}, {2, shape{2, 2}}, {2, shape{3, 3}}, {2, shape{2, 4}}, {2, shape{4, 2}}, {3, shape{1, 1}}, {3, shape{2, 2}}, {3, shape{2, 3}}, {3, shape{3, 2}}, {5, shape{1, 1}}, {5, shape{1, 3}}, {5, shape{3, 1}}, {5, shape{2, 2}}, {7, shape{1, 2}}, {7, shape{2, 1}}} {
		for e := range combinations(x.p, x.rows*x.cols) {
			if !yield(api.FMat{P: x.p, Rows: x.rows, Cols: x.cols, E: e}) {
				return
			}
		}
	}
}

// apply returns the product of a matrix and a vector.
func apply(a api.FMat, x []int) []int {
	return times(a, api.FMat{P: a.P, Rows: len(x), Cols: 1, E: x}).E
}

// span returns how many combinations of the rows of a matrix are equal to each vector.
func span(a api.FMat) map[string]int {
	transpose := build(a.P, a.Cols, a.Rows, func(i, j int) int { return at(a, j, i) })
	found := map[string]int{}
	for x := range combinations(a.P, a.Rows) {
		found[show(api.FMat{E: apply(transpose, x)})]++
	}
	return found
}

func haveSameSpan(a, b map[string]int) bool {
	if len(a) != len(b) {
		return false
	}
	for x := range a {
		if b[x] == 0 {
			return false
		}
	}
	return true
}

// isReduced reports whether a matrix is reduced, with these pivot columns.
func isReduced(a api.FMat, pivots []int) bool {
	for i := range a.Rows {
		row := a.E[i*a.Cols : (i+1)*a.Cols]
		first := slices.IndexFunc(row, func(n int) bool { return n != 0 })
		if (first >= 0) != (i < len(pivots)) {
			return false
		}
		if first < 0 {
			continue
		}
		if first != pivots[i] || i > 0 && pivots[i-1] >= first {
			return false
		}
		for k := range a.Rows {
			if at(a, k, first) != truth(k == i) {
				return false
			}
		}
	}
	return len(pivots) <= a.Rows
}

func expectEchelon(t *testing.T, name string, a, want api.FMat, wantedPivots []int) {
	t.Helper()
	e, pivots := field.Echelon(a)
	expect(t, name+": Echelon of "+show(a), e, want)
	if !slices.Equal(pivots, wantedPivots) {
		t.Fatalf("%s: Echelon of %s: pivots %v, want %v", name, show(a), pivots, wantedPivots)
	}
	if rank := field.Rank(a); rank != len(wantedPivots) {
		t.Fatalf("%s: Rank of %s: %d, want %d", name, show(a), rank, len(wantedPivots))
	}
}

// P5.4

func TestEchelonOfExamples(t *testing.T) {
	for _, x := range []struct {
		p          int
		rows, want [][]int
		pivots     []int
	}{
		{5, [][]int{{1, 2, 3}, {2, 4, 1}}, [][]int{{1, 2, 3}, {0, 0, 0}}, []int{0}},
		{7, [][]int{{1, 2, 3}, {2, 4, 1}}, [][]int{{1, 2, 0}, {0, 0, 1}}, []int{0, 2}},
		{2, [][]int{{0, 1}, {1, 0}}, [][]int{{1, 0}, {0, 1}}, []int{0, 1}},
		{2, [][]int{{0, 1, 1}, {0, 1, 0}, {0, 0, 1}}, [][]int{{0, 1, 0}, {0, 0, 1}, {0, 0, 0}}, []int{1, 2}},
		{3, [][]int{{0, 0, 2, 1}, {0, 0, 1, 1}}, [][]int{{0, 0, 1, 0}, {0, 0, 0, 1}}, []int{2, 3}},
		{3, [][]int{{0, 0}, {0, 0}}, [][]int{{0, 0}, {0, 0}}, nil},
		{3, [][]int{{0, 0}, {0, 2}, {0, 1}}, [][]int{{0, 1}, {0, 0}, {0, 0}}, []int{1}},
		{997, [][]int{{2, 1}}, [][]int{{1, 499}}, []int{0}},
	} {
		expectEchelon(t, "example", field.Of(x.p, x.rows), field.Of(x.p, x.want), x.pivots)
	}
}

// TestEchelonOfAllSmallMatrices compares the combinations of rows; the rows of the echelon form have the same ones.
func TestEchelonOfAllSmallMatrices(t *testing.T) {
	for a := range smallMatrices {
		e, pivots := field.Echelon(a)
		if !field.Right(e) || e.P != a.P || e.Rows != a.Rows || e.Cols != a.Cols || !isReduced(e, pivots) || !haveSameSpan(span(a), span(e)) {
			t.Fatalf("Echelon of %s: %s, pivots %v", show(a), show(e), pivots)
		}
		if field.Rank(a) != len(pivots) {
			t.Fatalf("Rank of %s: %d, want %d", show(a), field.Rank(a), len(pivots))
		}
	}
}

// known is a matrix with its echelon form: its product with an invertible matrix.
type known struct {
	product, change, reduced api.FMat
	pivots                   []int
}

func (g *generator) known(p, rows, cols, rank int) known {
	reduced, pivots := g.reduced(p, rows, cols, rank)
	change := g.invertible(p, rows)
	return known{times(change, reduced), change, reduced, pivots}
}

// knownMatrices visits matrices with their echelon forms, for shapes, primes and ranks.
func knownMatrices(yield func(k known) bool) {
	g := generator(12)
	for _, s := range shapes() {
		for _, p := range somePrimes() {
			for rank := range min(s.rows, s.cols) + 1 {
				if s.rows < 400 && !yield(g.known(p, s.rows, s.cols, rank)) {
					return
				}
			}
		}
	}
	for _, s := range []shape{{30, 50}, {50, 30}, {40, 40}} {
		for _, p := range []int{2, 3, 997} {
			for _, rank := range []int{1, 17, 29, 30} {
				if !yield(g.known(p, s.rows, s.cols, rank)) {
					return
				}
			}
		}
	}
}

func TestEchelonOfKnownMatrices(t *testing.T) {
	for k := range knownMatrices {
		expectEchelon(t, "known", k.product, k.reduced, k.pivots)
		expectEchelon(t, "reduced", k.reduced, k.reduced, k.pivots)
	}
}

func TestEchelonOfShapes(t *testing.T) {
	for _, p := range somePrimes() {
		for _, s := range shapes() {
			zero := build(p, s.rows, s.cols, func(int, int) int { return 0 })
			expectEchelon(t, "zeros", zero, zero, nil)
			greatest := build(p, s.rows, s.cols, func(int, int) int { return -1 })
			want := build(p, s.rows, s.cols, func(i, _ int) int { return truth(i == 0) })
			expectEchelon(t, "equal elements", greatest, want, make([]int, min(1, s.rows, s.cols)))
		}
	}
}

// TestEchelonOfManyRowsAndColumns has the greatest elements, and as many sums as possible.
func TestEchelonOfManyRowsAndColumns(t *testing.T) {
	g := generator(13)
	for _, x := range []struct {
		p int
		shape
		rank int
	}{{997, shape{400, 400}, 400}, {997, shape{400, 400}, 399}, {2, shape{400, 400}, 250}, {3, shape{200, 400}, 200}, {991, shape{400, 200}, 200}} {
		k := g.known(x.p, x.rows, x.cols, x.rank)
		expectEchelon(t, "many", k.product, k.reduced, k.pivots)
	}
	upper := build(997, 400, 400, func(i, j int) int { return -truth(i <= j) }) // each pivot changes all rows above it
	expectEchelon(t, "triangle", upper, field.One(997, 400), count(400))
	lower := build(997, 400, 400, func(i, j int) int { return -truth(i >= j) })
	expectEchelon(t, "triangle", lower, field.One(997, 400), count(400))
}

// count returns the numbers from 0 to n - 1.
func count(n int) []int {
	var list []int
	for i := range n {
		list = append(list, i)
	}
	return list
}

// P5.5: the pivot columns are those of Echelon.

// freeColumns returns the numbers of the columns without pivots.
func freeColumns(cols int, pivots []int) []int {
	return slices.DeleteFunc(count(cols), func(j int) bool { return slices.Contains(pivots, j) })
}

// rowsAt returns these rows of a matrix.
func rowsAt(a api.FMat, rows []int) api.FMat {
	return build(a.P, len(rows), a.Cols, func(i, j int) int { return at(a, rows[i], j) })
}

// expectKernel fails the test if Kernel is not the only matrix that it may be: the product is 0, and the rows of the columns without pivots are those of the unit matrix.
func expectKernel(t *testing.T, name string, a api.FMat, pivots []int) {
	t.Helper()
	k := field.Kernel(a)
	free := freeColumns(a.Cols, pivots)
	if !field.Right(k) || k.P != a.P || k.Rows != a.Cols || k.Cols != len(free) {
		t.Fatalf("%s: Kernel of %s: %s", name, show(a), show(k))
	}
	expect(t, name+": rows without pivots of Kernel of "+show(a), rowsAt(k, free), field.One(a.P, len(free)))
	expect(t, name+": product of "+show(a)+" and its Kernel", times(a, k), build(a.P, a.Rows, k.Cols, func(int, int) int { return 0 }))
}

func expectImage(t *testing.T, name string, a api.FMat, pivots []int) {
	t.Helper()
	image := field.Image(a)
	expect(t, name+": Image of "+show(a), image, columnsOf(a, pivots))
	if !field.Right(image) {
		t.Fatalf("%s: Image of %s is not right", name, show(a))
	}
}

func TestKernelAndImageOfExamples(t *testing.T) {
	for _, x := range []struct {
		p                   int
		rows, kernel, image [][]int
	}{
		{5, [][]int{{1, 2, 3}, {2, 4, 1}}, [][]int{{3, 2}, {1, 0}, {0, 1}}, [][]int{{1}, {2}}},
		{7, [][]int{{1, 2, 3}, {2, 4, 1}}, [][]int{{5}, {1}, {0}}, [][]int{{1, 3}, {2, 1}}},
		{2, [][]int{{0, 1, 1}}, [][]int{{1, 0}, {0, 1}, {0, 1}}, [][]int{{1}}},
		{3, [][]int{{0, 2}, {0, 1}}, [][]int{{1}, {0}}, [][]int{{2}, {1}}},
		{997, [][]int{{2, 1}, {1, 2}}, [][]int{nil, nil}, [][]int{{2, 1}, {1, 2}}},
		{997, [][]int{{0, 0}, {0, 0}}, [][]int{{1, 0}, {0, 1}}, [][]int{nil, nil}},
	} {
		a := field.Of(x.p, x.rows)
		expect(t, "Kernel of "+show(a), field.Kernel(a), field.Of(x.p, x.kernel))
		expect(t, "Image of "+show(a), field.Image(a), field.Of(x.p, x.image))
	}
}

func TestKernelAndImageOfAllSmallMatrices(t *testing.T) {
	for a := range smallMatrices {
		_, pivots := field.Echelon(a)
		expectKernel(t, "small", a, pivots)
		expectImage(t, "small", a, pivots)
	}
}

func TestKernelAndImageOfKnownMatrices(t *testing.T) {
	for k := range knownMatrices {
		expectKernel(t, "known", k.product, k.pivots)
		expectImage(t, "known", k.product, k.pivots)
	}
}

func TestKernelAndImageOfShapes(t *testing.T) {
	for _, p := range somePrimes() {
		for _, s := range shapes() {
			name := strconv.Itoa(s.rows) + " x " + strconv.Itoa(s.cols)
			expectKernel(t, name, build(p, s.rows, s.cols, func(int, int) int { return 0 }), nil)
			expectImage(t, name, build(p, s.rows, s.cols, func(int, int) int { return 0 }), nil)
			pivots := make([]int, min(1, s.rows, s.cols))
			expectKernel(t, name, build(p, s.rows, s.cols, func(int, int) int { return -1 }), pivots)
			expectImage(t, name, build(p, s.rows, s.cols, func(int, int) int { return -1 }), pivots)
		}
	}
	k := (generatorOf(14)).known(997, 400, 400, 200)
	expectKernel(t, "many", k.product, k.pivots)
	expectImage(t, "many", k.product, k.pivots)
}

func generatorOf(seed uint64) *generator {
	g := generator(seed)
	return &g
}
