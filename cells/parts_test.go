package cells_test

import (
	"math"
	"runtime/debug"
	"slices"
	"testing"

	"cocycle/api"
	"cocycle/cells"
)

// smallComplexes returns those of all complexes for which the slow definitions do.
func smallComplexes() []api.Complex {
	return slices.DeleteFunc(allComplexes(), func(c api.Complex) bool { return len(c.Cells) > 70 })
}

// someLists returns lists of Ids of a complex, and of others.
func someLists(g *generator, c api.Complex) [][]int {
	ids := someIds(c)
	lists := [][]int{nil, {}, ids}
	for range 6 {
		list := []int{}
		for range g.from(1, 4) {
			list = append(list, ids[g.below(len(ids))])
		}
		lists = append(lists, list)
	}
	return lists
}

// P6.5

func TestAbove(t *testing.T) {
	expectIds(t, "Above of 2", cells.Above(triangle(), 2), 4, 6)
	expectIds(t, "Above of 5", cells.Above(triangle(), 5), 7)
	expectIds(t, "Above of 7", cells.Above(triangle(), 7))
	expectIds(t, "Above of 99", cells.Above(triangle(), 99))
	expectIds(t, "Above of a cell that is missing", cells.Above(without(triangle(), 5), 5), 7)
	expectIds(t, "Above of a side of a second cell", cells.Above(complexOf(cell(3, 0), cell(3, 1, 9), cell(2, 1, 9, 9)), 9), 2)
	for _, c := range smallComplexes() {
		for _, id := range someIds(c) {
			want := theIds(c, func(x api.Cell) bool { return len(signsOf(x, id)) > 0 })
			expectIds(t, "Above in "+show(c), cells.Above(c, id), want...)
		}
	}
}

func TestTops(t *testing.T) {
	expectIds(t, "Tops of nothing", cells.Tops(api.Complex{}))
	expectIds(t, "Tops of the triangle", cells.Tops(triangle()), 7)
	expectIds(t, "Tops of the circle", cells.Tops(without(triangle(), 7)), 4, 5, 6)
	expectIds(t, "Tops of vertices", cells.Tops(points(4)), 1, 2, 3, 4)
	expectIds(t, "Tops of cells that are sides of themselves", cells.Tops(complexOf(cell(1, 0, 1), cell(2, 0, 3), cell(3, 0, 2), cell(4, 0, 9))), 4)
	expectIds(t, "Tops where a second cell has a side", cells.Tops(complexOf(cell(3, 0), cell(3, 1, 1), cell(1, 0))), 1, 3)
	for _, c := range smallComplexes() {
		want := theIds(c, func(y api.Cell) bool {
			return !slices.ContainsFunc(theCells(c), func(x api.Cell) bool { return isSideOf(y, x) })
		})
		expectIds(t, "Tops of "+show(c), cells.Tops(c), want...)
	}
}

func TestClosure(t *testing.T) {
	expectIds(t, "Closure of 4", cells.Closure(triangle(), []int{4}), 1, 2, 4)
	expectIds(t, "Closure of 7", cells.Closure(triangle(), []int{7}), 1, 2, 3, 4, 5, 6, 7)
	expectIds(t, "Closure of 6 3 99 6 -1 0", cells.Closure(triangle(), []int{6, 3, 99, 6, -1, 0}), 2, 3, 6)
	expectIds(t, "Closure of nothing", cells.Closure(triangle(), nil))
	expectIds(t, "Closure in nothing", cells.Closure(api.Complex{}, []int{1}))
	expectIds(t, "Closure where a side is missing", cells.Closure(without(triangle(), 4), []int{7}), 1, 2, 3, 5, 6, 7)
	expectIds(t, "Closure in a circle of sides", cells.Closure(complexOf(cell(1, 0, 2), cell(2, 0, 3), cell(3, 0, 1), cell(4, 0, 1)), []int{2}), 1, 2, 3)
	g := generator(41)
	for _, c := range smallComplexes() {
		for _, list := range someLists(&g, c) {
			expectIds(t, "Closure in "+show(c), cells.Closure(c, list), theClosure(c, list)...)
		}
	}
}

// P6.6

func TestSub(t *testing.T) {
	expect(t, "Sub of 4 and 5", cells.Sub(triangle(), []int{5, 4}), without(without(triangle(), 7), 6))
	expect(t, "Sub of nothing", cells.Sub(triangle(), nil), api.Complex{})
	g := generator(42)
	for _, c := range smallComplexes() {
		for _, list := range someLists(&g, c) {
			expect(t, "Sub of "+show(c), cells.Sub(c, list), theSub(c, theClosure(c, list)))
		}
	}
}

func expectUnion(t *testing.T, a, b, want api.Complex, wantOk bool) {
	t.Helper()
	got, ok := cells.Union(a, b)
	if ok != wantOk {
		t.Fatalf("Union of %s and %s: %v", show(a), show(b), ok)
	}
	expect(t, "Union of "+show(a)+" and "+show(b), got, want)
}

func TestUnion(t *testing.T) {
	left, right := without(without(triangle(), 7), 4), without(without(triangle(), 7), 5)
	expectUnion(t, left, right, without(triangle(), 7), true)
	expectUnion(t, triangle(), api.Complex{}, triangle(), true)
	expectUnion(t, api.Complex{}, triangle(), triangle(), true)
	expectUnion(t, points(2), moved(points(2), 5), complexOf(cell(1, 0), cell(2, 0), cell(6, 0), cell(7, 0)), true)
	expectUnion(t, moved(points(2), 5), points(2), complexOf(cell(1, 0), cell(2, 0), cell(6, 0), cell(7, 0)), true)
	expectUnion(t, triangle(), replaced(triangle(), cell(7, 2, 6, 4, -5)), triangle(), true)
	expectUnion(t, with(triangle(), cell(7, 3, 1)), with(triangle(), cell(1, 5)), triangle(), true)
	for _, x := range []api.Cell{cell(7, 3, 4, -5, 6), cell(7, 2, 4, 5, 6), cell(7, 2, 4, -5), cell(7, 2, 4, -5, 6, 6), cell(7, 2), cell(1, 0, 1), cell(4, 1, -1, 3)} {
		expectUnion(t, triangle(), replaced(triangle(), x), api.Complex{}, false)
		expectUnion(t, replaced(triangle(), x), triangle(), api.Complex{}, false)
		expectUnion(t, complexOf(x), with(triangle(), cell(99, 0)), api.Complex{}, false)
	}
	many, ok := cells.Union(points(4000), moved(points(4000), 4000))
	if !ok || !same(many, points(8000)) {
		t.Errorf("Union of 4000 and 4000 vertices: %d cells, %v", len(many.Cells), ok)
	}
}

func TestMeet(t *testing.T) {
	turned := replaced(triangle(), cell(5, 1, 1, -3))
	expect(t, "Meet with an edge turned round", cells.Meet(triangle(), turned), without(without(triangle(), 7), 5))
	expect(t, "Meet, the other way", cells.Meet(turned, triangle()), without(without(triangle(), 7), 5))
	expect(t, "Meet with a vertex of another dimension", cells.Meet(triangle(), replaced(triangle(), cell(1, 1))), complexOf(cell(2, 0), cell(3, 0), cell(6, 1, -2, 3)))
	expect(t, "Meet with nothing", cells.Meet(triangle(), api.Complex{}), api.Complex{})
	expect(t, "Meet of nothing", cells.Meet(api.Complex{}, triangle()), api.Complex{})
	expect(t, "Meet with a complex whose cells and sides are in another order", cells.Meet(triangle(), complexOf(cell(7, 2, 6, 4, -5), cell(4, 1, 2, -1), cell(2, 0), cell(1, 0))), complexOf(cell(1, 0), cell(2, 0), cell(4, 1, -1, 2)))
	expect(t, "Meet with a missing side", cells.Meet(triangle(), without(triangle(), 3)), complexOf(cell(1, 0), cell(2, 0), cell(4, 1, -1, 2)))
	expect(t, "Meet where both miss a side", cells.Meet(without(triangle(), 3), without(triangle(), 3)), without(triangle(), 3))
	circle := complexOf(cell(1, 0, 2), cell(2, 0, 3), cell(3, 0, 1), cell(4, 0, 1), cell(5, 0))
	expect(t, "Meet of circles of sides", cells.Meet(circle, replaced(circle, cell(2, 0, 3, 5))), complexOf(cell(5, 0)))
	expect(t, "Meet of second cells", cells.Meet(with(points(2), cell(1, 3)), with(complexOf(cell(1, 3), cell(2, 0)), points(2).Cells...)), complexOf(cell(2, 0)))
}

func TestUnionAndMeetAgainstTheDefinition(t *testing.T) {
	g := generator(43)
	list := slices.DeleteFunc(smallComplexes(), func(c api.Complex) bool { return len(c.Cells) > 30 })
	unions := 0
	for i, a := range list {
		ids := someIds(a)
		shuffle(&g, ids)
		others := []api.Complex{list[(i*5+1)%len(list)], g.damaged(a), g.shuffled(a), g.shuffled(theSub(a, theClosure(a, ids[:3]))), g.shuffled(theSub(a, ids[:len(ids)/2])), g.wild()}
		for _, b := range others {
			for _, x := range [][2]api.Complex{{a, b}, {b, a}, {others[3], b}} {
				want, ok := theUnion(x[0], x[1])
				expectUnion(t, x[0], x[1], want, ok)
				expect(t, "Meet of "+show(x[0])+" and "+show(x[1]), cells.Meet(x[0], x[1]), theMeet(x[0], x[1]))
				if ok {
					unions++
				}
			}
		}
	}
	if unions < 300 {
		t.Errorf("%d unions", unions)
	}
}

// P1 for sides of sides that go on for long

// chain returns so many cells, each of which is a side of the next one.
func chain(count int) api.Complex {
	var c api.Complex
	for i := range count {
		c.Cells = append(c.Cells, cell(i+1, i, i))
	}
	return c
}

func TestLongChainsOfSides(t *testing.T) {
	defer debug.SetMaxStack(debug.SetMaxStack(1 << 20))
	const count = 200000
	c := chain(count)
	if ids := cells.Closure(c, []int{count - 1}); len(ids) != count-1 || ids[0] != 1 || ids[count-2] != count-1 {
		t.Errorf("Closure in a long chain: %d Ids", len(ids))
	}
	if sub := cells.Sub(c, []int{count / 2}); len(sub.Cells) != count/2 {
		t.Errorf("Sub of a long chain: %d cells", len(sub.Cells))
	}
	if meet := cells.Meet(c, replaced(c, cell(3, 0))); len(meet.Cells) != 2 {
		t.Errorf("Meet of long chains: %d cells", len(meet.Cells))
	}
	c.Cells[0].Sides[0].Cell = count
	if ids := cells.Closure(c, []int{7, math.MaxInt}); len(ids) != count {
		t.Errorf("Closure in a long circle: %d Ids", len(ids))
	}
}
