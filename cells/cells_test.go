package cells_test

import (
	"math"
	"slices"
	"strconv"
	"testing"

	"cocycle/api"
	"cocycle/cells"
	"cocycle/matrix"
)

// P6.1

func TestCanon(t *testing.T) {
	g := generator(31)
	expect(t, "Canon of nothing", cells.Canon(api.Complex{}), api.Complex{})
	expect(t, "Canon of the triangle", cells.Canon(triangle()), triangle())
	for _, c := range allComplexes()[:80] {
		if len(c.Cells) < 1000 {
			expect(t, "Canon of "+show(c), cells.Canon(c), canonical(c))
			other := g.shuffled(c)
			expect(t, "Canon of "+show(other), cells.Canon(other), canonical(other))
		}
	}
}

// TestCanonOfEqualNumbers has more cells and sides than sorting leaves in order by chance.
func TestCanonOfEqualNumbers(t *testing.T) {
	var c, want api.Complex
	for i := range 300 {
		x := api.Cell{Id: 5 - i%7, Dim: i}
		for k := range 300 {
			x.Sides = append(x.Sides, api.Side{Cell: 3 - k%4, Sign: k})
		}
		c.Cells = append(c.Cells, x)
	}
	for id := -1; id <= 5; id++ {
		for i := 5 - id; i < 300; i += 7 {
			x := api.Cell{Id: id, Dim: i}
			for number := range 4 {
				for k := 3 - number; k < 300; k += 4 {
					x.Sides = append(x.Sides, api.Side{Cell: number, Sign: k})
				}
			}
			want.Cells = append(want.Cells, x)
		}
	}
	expect(t, "Canon", cells.Canon(c), want)
	if x, ok := cells.Find(c, 2); !ok || !sameCell(x, want.Cells[slices.IndexFunc(want.Cells, func(y api.Cell) bool { return y.Id == 2 })]) {
		t.Errorf("Find of 2: %v, %v", x, ok)
	}
}

func TestEqual(t *testing.T) {
	g := generator(32)
	list := allComplexes()
	for i, a := range list {
		if len(a.Cells) > 1000 {
			continue
		}
		if !cells.Equal(a, copyOf(a)) || !cells.Equal(cells.Canon(a), a) {
			t.Errorf("Equal of %s and itself", show(a))
		}
		for _, b := range []api.Complex{list[(i*7+3)%len(list)], g.shuffled(a), g.damaged(a)} {
			want := same(canonical(a), canonical(b))
			if cells.Equal(a, b) != want || cells.Equal(b, a) != want {
				t.Errorf("Equal of %s and %s, want %v", show(a), show(b), want)
			}
		}
	}
}

func TestEqualOfComplexesThatDiffer(t *testing.T) {
	a := with(triangle(), cell(7, 2, 1, 1), cell(7, 3, 1, 1))
	if !cells.Equal(api.Complex{}, api.Complex{Cells: []api.Cell{}}) || !cells.Equal(points(1), complexOf(api.Cell{Id: 1, Sides: []api.Side{}})) {
		t.Error("Equal of nil and empty lists")
	}
	x := a.Cells[7]
	for name, b := range map[string]api.Complex{
		"nothing": {}, "another cell": with(a, cell(8, 0)), "a cell less": without(a, 3), "a cell twice": with(a, x), "other cells once": triangle(),
		"equal Ids in another order": with(triangle(), a.Cells[8], a.Cells[7]), "another Id": replaced(moved(a, 0), cell(1, 0, 2)),
		"another Dim": replaced(a, cell(2, 1)), "another sign": replaced(a, cell(4, 1, 1, 2)), "another side": replaced(a, cell(4, 1, -1, 3)),
		"a side more": replaced(a, cell(4, 1, -1, 2, 2)), "a side less": replaced(a, cell(4, 1, -1)), "all Ids moved": moved(a, 1),
	} {
		if cells.Equal(a, b) || cells.Equal(b, a) {
			t.Errorf("Equal of a complex and one with %s", name)
		}
	}
	signs := func(first, second int) api.Complex {
		return complexOf(api.Cell{Id: 1, Dim: 1, Sides: []api.Side{{Cell: 2, Sign: first}, {Cell: 2, Sign: second}}})
	}
	if cells.Equal(signs(1, -1), signs(-1, 1)) || !cells.Equal(signs(1, -1), signs(1, -1)) {
		t.Error("Equal of equal sides with their signs in another order")
	}
}

// P6.3

// someDims returns dimensions that occur, and others.
func someDims() []int {
	return []int{math.MinInt, math.MinInt + 1, -3, -2, -1, 0, 1, 2, 3, 4, 7, 8, 9, math.MaxInt - 1, math.MaxInt}
}

// someIds returns Ids that occur, and others.
func someIds(c api.Complex) []int {
	ids := []int{math.MinInt, -2, -1, 0, 1, 2, 3, 4, 5, 6, 7, 8, 9, 10, 99, math.MaxInt}
	for _, x := range c.Cells[:min(len(c.Cells), 70)] {
		ids = append(ids, x.Id)
	}
	return ids
}

func TestIdsAndDim(t *testing.T) {
	expectIds(t, "Ids of vertices", cells.Ids(triangle(), 0), 1, 2, 3)
	expectIds(t, "Ids of edges", cells.Ids(triangle(), 1), 4, 5, 6)
	expectIds(t, "Ids of nothing", cells.Ids(triangle(), 3))
	expectIds(t, "Ids of a cell that is there twice", cells.Ids(complexOf(cell(4, 1), cell(2, 0), cell(4, 0), cell(2, 0)), 0), 2)
	for _, c := range allComplexes() {
		if len(c.Cells) > 1000 {
			continue
		}
		greatest := -1
		for _, x := range theCells(c) {
			greatest = max(greatest, x.Dim)
		}
		if dim := cells.Dim(c); dim != greatest {
			t.Errorf("Dim of %s: %d, want %d", show(c), dim, greatest)
		}
		for _, dim := range someDims() {
			expectIds(t, "Ids of "+show(c), cells.Ids(c, dim), theIds(c, func(x api.Cell) bool { return x.Dim == dim })...)
		}
	}
}

func TestDim(t *testing.T) {
	for _, x := range []struct {
		c    api.Complex
		want int
	}{
		{api.Complex{}, -1}, {points(1), 0}, {triangle(), 2}, {ball(8), 8}, {complexOf(cell(1, -1)), -1}, {complexOf(cell(1, -2)), -1},
		{complexOf(cell(1, math.MinInt), cell(2, -7)), -1}, {complexOf(cell(1, math.MaxInt), cell(2, 0)), math.MaxInt}, {complexOf(cell(1, 3), cell(1, 5)), 3},
	} {
		if dim := cells.Dim(x.c); dim != x.want {
			t.Errorf("Dim of %s: %d, want %d", show(x.c), dim, x.want)
		}
	}
}

func TestFind(t *testing.T) {
	if x, ok := cells.Find(triangle(), 7); !ok || !sameCell(x, cell(7, 2, 4, -5, 6)) {
		t.Errorf("Find of 7: %v, %v", x, ok)
	}
	if x, ok := cells.Find(replaced(triangle(), cell(7, 2, 6, 4, -5)), 7); !ok || !sameCell(x, cell(7, 2, 4, -5, 6)) {
		t.Errorf("Find of 7, with its sides in another order: %v, %v", x, ok)
	}
	for _, c := range allComplexes() {
		if len(c.Cells) > 1000 {
			continue
		}
		for _, id := range someIds(c) {
			got, ok := cells.Find(c, id)
			want, wantOk := theCell(c, id)
			if ok != wantOk || !sameCell(got, want) {
				t.Errorf("Find of %d in %s: %v, %v", id, show(c), got, ok)
			}
		}
	}
}

// P6.4

func TestMatrix(t *testing.T) {
	for _, x := range []struct {
		c    api.Complex
		dim  int
		want [][]int
	}{
		{triangle(), 1, [][]int{{-1, -1, 0}, {1, 0, -1}, {0, 1, 1}}},
		{triangle(), 2, [][]int{{1}, {-1}, {1}}},
		{projectivePlane(), 2, [][]int{{1, 1, 0, 0}, {0, 0, 1, 1}, {1, 0, 1, 0}, {0, 1, 0, 1}, {-1, 0, 0, -1}, {0, -1, -1, 0}}},
		{complexOf(cell(9, 1, 3, 3, -1, 3, -1, 7), cell(3, 0), cell(1, 0)), 1, [][]int{{-2}, {3}}},
	} {
		if got := cells.Matrix(x.c, x.dim); !matrix.Equal(got, matrix.Of(x.want)) {
			t.Errorf("Matrix of %s, dimension %d: %v", show(x.c), x.dim, got)
		}
	}
	for _, c := range allComplexes() {
		if len(c.Cells) > 1000 {
			continue
		}
		for _, dim := range someDims() {
			if got := cells.Matrix(c, dim); !matrix.Equal(got, theMatrix(c, dim)) {
				t.Errorf("Matrix of %s, dimension %d: %v", show(c), dim, got)
			}
		}
	}
}

// theMatrix returns what Matrix returns, if it is not too large.
func theMatrix(c api.Complex, dim int) api.Mat {
	var rows [][]int
	columns := theIds(c, func(x api.Cell) bool { return x.Dim == dim })
	for _, id := range theIds(c, func(x api.Cell) bool { return x.Dim == dim-1 }) {
		row := make([]int, len(columns))
		for j, column := range columns {
			x, _ := theCell(c, column)
			for _, sign := range signsOf(x, id) {
				row[j] += sign
			}
		}
		rows = append(rows, row)
	}
	if len(rows) == 0 {
		return matrix.Zero(0, len(columns))
	}
	return matrix.Of(rows)
}

func TestMatrixOfManyCells(t *testing.T) {
	for _, x := range []struct{ vertices, edges int }{{200, 1}, {201, 1}, {200, 0}, {201, 0}, {0, 200}, {0, 201}, {1, 200}, {1, 201}, {200, 200}, {201, 201}, {100000, 100000}, {0, 0}} {
		c := points(x.vertices)
		for i := range x.edges {
			c.Cells = append(c.Cells, cell(1000000+i, 1, 1, -7))
		}
		got := cells.Matrix(c, 1)
		want := matrix.Zero(x.vertices, x.edges)
		for j := range want.Cols {
			if want.Rows > 0 {
				want.E[j] = api.Wide{Mag: "\x01"}
			}
			if want.Rows > 6 {
				want.E[6*want.Cols+j] = api.Wide{Neg: true, Mag: "\x01"}
			}
		}
		if !matrix.Equal(got, want) {
			t.Errorf("Matrix of %d vertices and %d edges: %d rows, %d columns", x.vertices, x.edges, got.Rows, got.Cols)
		}
	}
}

func TestMatrixWrapsAround(t *testing.T) {
	vertical := func(signs ...int) api.Complex {
		x := api.Cell{Id: 2, Dim: math.MinInt}
		for _, sign := range signs {
			x.Sides = append(x.Sides, api.Side{Cell: 1, Sign: sign})
		}
		return complexOf(cell(1, math.MaxInt), x)
	}
	for _, x := range []struct {
		c    api.Complex
		want int
	}{
		{vertical(5), 5}, {vertical(math.MaxInt, 1), math.MinInt}, {vertical(math.MinInt, -1), math.MaxInt}, {vertical(math.MinInt), math.MinInt}, {vertical(math.MinInt, math.MinInt), 0},
	} {
		if got := cells.Matrix(x.c, math.MinInt); !matrix.Equal(got, matrix.Of([][]int{{x.want}})) {
			t.Errorf("Matrix of %s: %v", show(x.c), got)
		}
	}
}

// P6.7

func TestEuler(t *testing.T) {
	for _, x := range []struct {
		name string
		c    api.Complex
		want int
	}{
		{"nothing", api.Complex{}, 0}, {"points", points(5), 5}, {"the triangle", triangle(), 1}, {"a circle", without(triangle(), 7), 0}, {"the projective plane", projectivePlane(), 1},
		{"a sphere", without(ball(3), 7), 2}, {"edges", complexOf(cell(1, 1), cell(2, 1)), -2}, {"a cell twice", complexOf(cell(1, 1), cell(1, 0)), -1},
		{"negative dimensions", complexOf(cell(1, -1), cell(2, -3), cell(3, -2)), -1}, {"the least and the greatest dimension", complexOf(cell(1, math.MinInt), cell(2, math.MinInt+2), cell(3, math.MaxInt)), 1},
	} {
		if got := cells.Euler(x.c); got != x.want {
			t.Errorf("Euler of %s: %d, want %d", x.name, got, x.want)
		}
	}
	for i, c := range allComplexes() {
		even := len(theIds(c, func(x api.Cell) bool { return x.Dim%2 == 0 }))
		odd := len(theIds(c, func(x api.Cell) bool { return x.Dim%2 != 0 }))
		if got := cells.Euler(c); got != even-odd {
			t.Errorf("Euler of complex %s: %d, want %d", strconv.Itoa(i), got, even-odd)
		}
	}
}
