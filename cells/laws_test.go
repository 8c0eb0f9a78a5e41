package cells_test

import (
	"math"
	"slices"
	"strconv"
	"testing"

	"cocycle/api"
	"cocycle/cells"
	"cocycle/matrix"
)

// P6.10

// randomSets returns a simplicial complex of a few random sets.
func (g *generator) randomSets() api.Complex {
	var l [][]int
	for range g.from(1, 6) {
		var numbers []int
		for range g.from(1, 5) {
			numbers = append(numbers, g.below(8))
		}
		l = append(l, numbers)
	}
	return cells.Simplicial(l)
}

// randomIds returns some of the Ids of a complex.
func (g *generator) randomIds(c api.Complex) []int {
	var ids []int
	for _, x := range c.Cells {
		if g.below(5) == 0 {
			ids = append(ids, x.Id)
		}
	}
	return ids
}

func TestOrderPlaysNoPart(t *testing.T) {
	g := generator(61)
	list := []api.Complex{without(triangle(), 2), replaced(triangle(), cell(7, 5, 7, 4, 99)), complexOf(cell(1, -4, 3), cell(2, 3, 1), cell(3, 0, 2, 3))}
	for range 20 {
		list = append(list, g.randomSets())
	}
	for _, a := range append(list, rightComplexes()...) {
		b := g.shuffled(a)
		idA, eA := cells.Check(a)
		expectError(t, "a shuffled complex", b, idA, eA)
		if cells.Dim(a) != cells.Dim(b) || cells.Euler(a) != cells.Euler(b) || !cells.Equal(a, b) {
			t.Errorf("Dim, Euler or Equal of %s", show(b))
		}
		expect(t, "Canon", cells.Canon(b), cells.Canon(a))
		expectIds(t, "Tops", cells.Tops(b), cells.Tops(a)...)
		for dim := range 5 {
			expectIds(t, "Ids", cells.Ids(b, dim), cells.Ids(a, dim)...)
			if !matrix.Equal(cells.Matrix(a, dim), cells.Matrix(b, dim)) {
				t.Errorf("Matrix of %s", show(b))
			}
		}
		for _, id := range someIds(a) {
			x, _ := cells.Find(a, id)
			if y, _ := cells.Find(b, id); !sameCell(x, y) {
				t.Errorf("Find of %d in %s", id, show(b))
			}
			expectIds(t, "Above", cells.Above(b, id), cells.Above(a, id)...)
		}
		ids := g.randomIds(a)
		expectIds(t, "Closure", cells.Closure(b, ids), cells.Closure(a, ids)...)
		expect(t, "Sub", cells.Sub(b, ids), cells.Sub(a, ids))
		union, ok := cells.Union(cells.Sub(a, ids), b)
		if !ok {
			t.Errorf("Union of %s with a part of it", show(b))
		}
		expect(t, "Union", union, cells.Canon(a))
		expect(t, "Meet", cells.Meet(g.shuffled(a), b), cells.Meet(a, a))
		expect(t, "Product", cells.Product(b, ball(1)), cells.Product(a, ball(1)))
	}
}

func TestPartsOfRightComplexesAreRight(t *testing.T) {
	g := generator(62)
	for range 200 {
		c := g.randomSets()
		expectRight(t, "a simplicial complex", c)
		a, b := cells.Sub(c, g.randomIds(c)), cells.Sub(c, g.randomIds(c))
		expectRight(t, "a closure", a)
		union, ok := cells.Union(a, b)
		if !ok {
			t.Errorf("no Union of %s and %s", show(a), show(b))
		}
		meet := cells.Meet(a, b)
		expectRight(t, "a union", union)
		expectRight(t, "a meet", meet)
		expect(t, "Meet, the other way", cells.Meet(b, a), meet)
		if cells.Euler(union)+cells.Euler(meet) != cells.Euler(a)+cells.Euler(b) {
			t.Errorf("Euler numbers of %s and %s", show(a), show(b))
		}
		other := g.randomSets()
		expectRight(t, "a meet of others", cells.Meet(c, other))
		if union, ok := cells.Union(c, other); ok {
			expectRight(t, "a union of others", union)
		}
	}
}

func TestMatricesOfRightComplexes(t *testing.T) {
	g := generator(63)
	list := rightComplexes()
	for range 100 {
		list = append(list, g.randomSets())
	}
	for _, c := range append(list, cells.Product(projectivePlane(), polygon(3)), cells.Product(ball(3), ball(4))) {
		for dim := -1; dim <= 9; dim++ {
			product, ok := matrix.Mul(cells.Matrix(c, dim), cells.Matrix(c, dim+1))
			if !ok || !matrix.Equal(product, matrix.Zero(product.Rows, product.Cols)) {
				t.Errorf("Matrix for %d and %d of %s", dim, dim+1, show(c))
			}
		}
	}
}

func TestEulerNumbersOfProducts(t *testing.T) {
	g := generator(64)
	list := []api.Complex{{}, points(3), without(polygon(5), 11), without(ball(3), 7), projectivePlane(), g.randomSets(), g.randomSets(), g.randomSets()}
	for _, a := range list {
		for _, b := range list {
			c := cells.Product(a, b)
			if len(c.Cells) == len(a.Cells)*len(b.Cells) && cells.Euler(c) != cells.Euler(a)*cells.Euler(b) {
				t.Errorf("Euler number of the product of %s and %s: %d", show(a), show(b), cells.Euler(c))
			}
		}
	}
}

// P1, R2 and R3 for all functions

// function is a function of one or two complexes that returns a complex.
type function struct {
	name string
	call func(a, b api.Complex) api.Complex
}

func functions() []function {
	return []function{
		{"Canon", func(a, _ api.Complex) api.Complex { return cells.Canon(a) }},
		{"Sub", func(a, _ api.Complex) api.Complex { return cells.Sub(a, cells.Tops(a)) }},
		{"Union", func(a, b api.Complex) api.Complex { c, _ := cells.Union(a, b); return c }},
		{"Meet", cells.Meet},
		{"Product", cells.Product},
		{"Find", func(a, _ api.Complex) api.Complex {
			var list []api.Cell
			for _, x := range a.Cells[:min(3, len(a.Cells))] {
				found, _ := cells.Find(a, x.Id)
				list = append(list, found)
			}
			return complexOf(list...)
		}},
	}
}

// callAll calls all other functions of a complex.
func callAll(a, b api.Complex) {
	ids := someIds(a)
	cells.Equal(a, b)
	cells.Check(a)
	cells.Dim(a)
	cells.Euler(a)
	cells.Tops(a)
	cells.Closure(a, ids)
	for _, n := range append(someDims(), ids...) {
		cells.Ids(a, n)
		cells.Matrix(a, n)
		cells.Find(a, n)
		cells.Above(a, n)
		cells.Closure(a, []int{n})
	}
}

func TestArgumentsAreNotChanged(t *testing.T) {
	g := generator(65)
	for _, a := range smallComplexes() {
		a = g.shuffled(a)
		b := g.damaged(a)
		oldA, oldB := copyOf(a), copyOf(b)
		for _, f := range functions() {
			f.call(a, b)
			f.call(a, a)
			f.call(b, a)
		}
		callAll(a, b)
		expect(t, "first argument", a, oldA)
		expect(t, "second argument", b, oldB)
	}
	ids, sets := []int{7, 3, 3, 99, 1}, [][]int{{2, 0, 1, 1}, {-1, 5}, {9, 3}}
	cells.Closure(triangle(), ids)
	cells.Sub(triangle(), ids)
	cells.Simplicial(sets)
	expectIds(t, "list of Ids", ids, 7, 3, 3, 99, 1)
	if !slices.EqualFunc(sets, [][]int{{2, 0, 1, 1}, {-1, 5}, {9, 3}}, func(x, y []int) bool { return slices.Equal(x, y) }) {
		t.Errorf("sets: %v", sets)
	}
}

// roomy returns a copy of a complex whose lists have room for more, where something else is.
func roomy(c api.Complex) api.Complex {
	list := append(copyOf(c).Cells, slices.Repeat([]api.Cell{cell(-55, -55)}, 20)...)
	for i, x := range list {
		sides := append(x.Sides, slices.Repeat([]api.Side{{Cell: -55, Sign: -55}}, 5)...)
		list[i].Sides = sides[:len(x.Sides)]
	}
	return api.Complex{Cells: list[:len(c.Cells)]}
}

// whole returns a complex with all that its lists have room for.
func whole(c api.Complex) api.Complex {
	c.Cells = slices.Clone(c.Cells[:cap(c.Cells)])
	for i, x := range c.Cells {
		c.Cells[i].Sides = x.Sides[:cap(x.Sides)]
	}
	return copyOf(c)
}

func TestWhatIsBehindArgumentsIsNotChanged(t *testing.T) {
	g := generator(67)
	for _, c := range smallComplexes() {
		for _, a := range []api.Complex{roomy(c), roomy(cells.Canon(c))} {
			for _, b := range []api.Complex{roomy(points(12)), roomy(moved(triangle(), 500)), roomy(g.damaged(c))} {
				oldA, oldB := whole(a), whole(b)
				for _, f := range functions() {
					f.call(a, b)
					f.call(b, a)
				}
				callAll(a, b)
				expect(t, "first argument, and what is behind it", whole(a), oldA)
				expect(t, "second argument, and what is behind it", whole(b), oldB)
			}
		}
	}
	ids := []int{7, 3, 99, 1, -55, -55, -55}
	cells.Closure(triangle(), ids[:4])
	cells.Sub(triangle(), ids[:4])
	cells.Simplicial([][]int{ids[:2], ids[1:4]})
	expectIds(t, "list of Ids, and what is behind it", ids, 7, 3, 99, 1, -55, -55, -55)
}

// overwrite changes the sides of a cell, and what is behind them.
func overwrite(x api.Cell) {
	sides := x.Sides[:cap(x.Sides)]
	for k := range sides {
		sides[k] = api.Side{Cell: -77, Sign: -77}
	}
}

// overwriteAll changes all cells of a complex, and what is behind them.
func overwriteAll(c api.Complex) {
	list := c.Cells[:cap(c.Cells)]
	for i, x := range list {
		overwrite(x)
		list[i] = api.Cell{Id: -77}
	}
}

func TestResultsShareNoMemory(t *testing.T) {
	g := generator(66)
	for _, a := range smallComplexes() {
		for _, a := range []api.Complex{a, cells.Canon(a)} {
			for _, b := range []api.Complex{{}, copyOf(a), points(1), g.damaged(a)} {
				oldA, oldB := copyOf(a), copyOf(b)
				for _, f := range functions() {
					for _, x := range [][2]api.Complex{{a, b}, {b, a}} {
						overwriteAll(f.call(x[0], x[1]))
						expect(t, "first argument of "+f.name, a, oldA)
						expect(t, "second argument of "+f.name, b, oldB)
						expectPartsApart(t, f.name, f.call(x[0], x[1]))
					}
				}
			}
		}
	}
	for range 2 {
		overwriteAll(cells.Simplicial([][]int{{0, 1, 2}}))
	}
	expect(t, "Simplicial again", cells.Simplicial([][]int{{0, 1, 2}}), triangle())
	expectPartsApart(t, "Simplicial", cells.Simplicial([][]int{{0, 1, 2, 3, 4}}))
}

// expectPartsApart fails the test if two cells of a complex share the memory of their sides.
func expectPartsApart(t *testing.T, name string, c api.Complex) {
	t.Helper()
	for i, x := range c.Cells {
		old := copyOf(api.Complex{Cells: c.Cells[i+1:]})
		overwrite(x)
		expect(t, name+": cells behind "+strconv.Itoa(x.Id), api.Complex{Cells: c.Cells[i+1:]}, old)
	}
}

func TestListsShareNoMemory(t *testing.T) {
	c, ids := triangle(), []int{1, 2, 4}
	for name, list := range map[string][]int{"Ids": cells.Ids(c, 1), "Above": cells.Above(c, 2), "Tops": cells.Tops(c), "Closure": cells.Closure(c, ids)} {
		for i := range list[:cap(list)] {
			list[:cap(list)][i] = -77
		}
		expect(t, "argument of "+name, c, triangle())
		expectIds(t, "list of Ids of "+name, ids, 1, 2, 4)
	}
}

func TestNilAndEmptyLists(t *testing.T) {
	empty := api.Complex{Cells: []api.Cell{}}
	vertex := complexOf(api.Cell{Id: 1, Sides: []api.Side{}})
	expectRight(t, "an empty list of cells", empty)
	expectRight(t, "an empty list of sides", vertex)
	for _, f := range functions() {
		expect(t, f.name+" of empty lists", f.call(empty, empty), api.Complex{})
		expect(t, f.name+" of empty sides", f.call(vertex, points(1)), points(1))
	}
}

func TestAllFunctionsAcceptAllArguments(t *testing.T) {
	extremes := []int{math.MinInt, -1, 0, 1, math.MaxInt}
	var list []api.Complex
	for _, id := range extremes {
		for _, dim := range extremes {
			for _, side := range extremes {
				for _, sign := range extremes {
					x := api.Cell{Id: id, Dim: dim, Sides: []api.Side{{Cell: side, Sign: sign}, {Cell: id, Sign: sign}}}
					list = append(list, complexOf(x, cell(side, dim-1, 1), cell(1, dim)))
				}
			}
		}
	}
	for i, a := range list {
		b := list[(i*3+1)%len(list)]
		callAll(a, b)
		for _, f := range functions() {
			f.call(a, b)
		}
		cells.Simplicial([][]int{{a.Cells[0].Id, a.Cells[0].Dim}, {b.Cells[0].Id}})
		expectTheSame(t, a, b)
	}
}

// expectTheSame fails the test if a result is not that of the definition.
func expectTheSame(t *testing.T, a, b api.Complex) {
	t.Helper()
	id, e := theError(a)
	expectError(t, "a complex of extremes", a, id, e)
	union, ok := theUnion(a, b)
	expectUnion(t, a, b, union, ok)
	expect(t, "Meet of "+show(a)+" and "+show(b), cells.Meet(a, b), theMeet(a, b))
}
