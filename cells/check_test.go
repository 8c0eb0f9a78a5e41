package cells_test

import (
	"math"
	"slices"
	"strconv"
	"testing"

	"cocycle/api"
)

// P6.2

func TestCheckOfRightComplexes(t *testing.T) {
	for i, c := range rightComplexes() {
		expectRight(t, "right complex "+strconv.Itoa(i), c)
	}
	expectRight(t, "4000 vertices", points(4000))
	expectRight(t, "the greatest Id", complexOf(cell(math.MaxInt, 0)))
	expectRight(t, "all sides of 8 dimensions", simplices([][]int{{0, 1, 2, 3, 4, 5, 6, 7, 8}}))
	torus := theProduct(without(polygon(3), 7), without(polygon(4), 9))
	solid := cell(100, 3)
	for _, x := range torus.Cells {
		if x.Dim == 2 {
			solid.Sides = append(solid.Sides, api.Side{Cell: x.Id, Sign: 1})
		}
	}
	expectRight(t, "a cell whose sides are a torus", with(torus, solid))
}

func TestCheckOfManyCells(t *testing.T) {
	expectError(t, "4001 vertices", points(4001), 0, api.ErrMany)
	expectError(t, "4000 cells, the last one wrong", replaced(points(4000), cell(4000, 0, 1)), 4000, api.ErrSide)
	expectError(t, "4001 cells, one of them wrong", replaced(points(4001), cell(1, -1)), 0, api.ErrMany)
	expectError(t, "one cell, too often", complexOf(slices.Repeat([]api.Cell{cell(1, 0)}, 4001)...), 0, api.ErrMany)
	expectError(t, "one cell 4000 times", complexOf(slices.Repeat([]api.Cell{cell(1, 0)}, 4000)...), 1, api.ErrId)
}

func TestCheckOfIds(t *testing.T) {
	for _, id := range []int{0, -1, -77, math.MinInt} {
		expectError(t, "a wrong Id", with(triangle(), cell(id, 0)), id, api.ErrId)
		expectError(t, "a wrong Id, and Dim, and sides", with(triangle(), cell(id, -1, 1)), id, api.ErrId)
	}
	expectError(t, "two wrong Ids", with(triangle(), cell(0, 0), cell(-3, 0)), -3, api.ErrId)
	for id := range 7 {
		expectError(t, "an Id that is there twice", with(triangle(), cell(id+1, 0)), id+1, api.ErrId)
	}
	expectError(t, "a vertex twice", complexOf(cell(1, 0), cell(1, 0)), 1, api.ErrId)
	expectError(t, "an Id twice, first with a wrong Dim", complexOf(cell(1, -1), cell(1, 0)), 1, api.ErrDim)
	expectError(t, "an Id twice, then with a wrong Dim", complexOf(cell(1, 0), cell(1, -1)), 1, api.ErrId)
	expectError(t, "an Id twice, after another error", complexOf(cell(1, 0, 1), cell(2, 0), cell(2, 0)), 1, api.ErrSide)
}

// TestCheckOfSidesThatAreThereTwice has edges before their vertices, because the errors of the second ones would be found before.
func TestCheckOfSidesThatAreThereTwice(t *testing.T) {
	vertexFirst := complexOf(cell(1, 1, -5, 6), cell(5, 0), cell(5, 1), cell(6, 0))
	expectError(t, "an edge of a vertex that is an edge later", vertexFirst, 5, api.ErrId)
	edgeFirst := complexOf(cell(1, 1, -5, 6), cell(5, 1), cell(5, 0), cell(6, 0))
	expectError(t, "an edge of an edge that is a vertex later", edgeFirst, 1, api.ErrSide)
}

func TestCheckOfDimensions(t *testing.T) {
	for _, dim := range []int{-1, -2, 9, 10, math.MaxInt, math.MinInt} {
		expectError(t, "a wrong Dim", with(triangle(), cell(8, dim)), 8, api.ErrDim)
		expectError(t, "a wrong Dim, and sides", with(triangle(), api.Cell{Id: 8, Dim: dim, Sides: []api.Side{{Cell: 99, Sign: 7}}}), 8, api.ErrDim)
	}
	nine := with(ball(8), cell(18, 8, 15, -16), cell(19, 9, 17, -18))
	expectError(t, "a ball of 9 dimensions", nine, 19, api.ErrDim)
	expectRight(t, "its boundary", without(nine, 19))
}

func TestCheckOfSides(t *testing.T) {
	expectError(t, "a vertex with a side", replaced(triangle(), cell(3, 0, 1)), 3, api.ErrSide)
	expectError(t, "a vertex with a side of dimension -1", with(triangle(), cell(8, 0, 9), cell(9, -1)), 8, api.ErrSide)
	for name, sides := range map[string][]int{
		"no sides": {}, "one side": {1}, "three sides": {-1, 2, 3}, "a side that is not there": {-1, 99}, "the side 0": {-1, 0},
		"the same sides twice": {-1, 1}, "an edge as a side": {-1, 5}, "a triangle as a side": {-1, 7}, "itself as a side": {-1, 4},
	} {
		expectError(t, "an edge with "+name, replaced(triangle(), cell(4, 1, sides...)), 4, api.ErrSide)
	}
	for name, sides := range map[string][]int{
		"no sides": {}, "one side": {4}, "a side that is not there": {4, -5, 99}, "a side twice": {4, -5, 6, -6}, "a side twice, apart": {6, 4, -5, -6},
		"a vertex as a side": {4, -5, 6, 1}, "itself as a side": {4, -5, 6, 7}, "vertices as sides": {-1, 2},
	} {
		expectError(t, "a triangle with "+name, replaced(triangle(), cell(7, 2, sides...)), 7, api.ErrSide)
	}
	expectRight(t, "64 sides", polygon(64))
	expectError(t, "65 sides", polygon(65), 131, api.ErrSide)
	expectError(t, "very many sides", with(triangle(), cell(8, 2, slices.Repeat([]int{4}, 100000)...)), 8, api.ErrSide)
	expectError(t, "a missing vertex", without(triangle(), 1), 4, api.ErrSide)
	expectError(t, "a missing edge", without(triangle(), 5), 7, api.ErrSide)
	expectError(t, "wrong sides and wrong signs", replaced(triangle(), cell(4, 1, 1, 99)), 4, api.ErrSide)
}

func TestCheckOfSigns(t *testing.T) {
	for _, sign := range []int{0, 2, -2, 3, math.MaxInt, math.MinInt} {
		for _, id := range []int{4, 7} {
			c := triangle()
			c.Cells[id-1].Sides[1].Sign = sign
			expectError(t, "the sign "+strconv.Itoa(sign), c, id, api.ErrSign)
		}
	}
	expectError(t, "an edge with signs 1", replaced(triangle(), cell(5, 1, 1, 3)), 5, api.ErrSign)
	expectError(t, "an edge with signs -1", replaced(triangle(), cell(5, 1, -1, -3)), 5, api.ErrSign)
	expectError(t, "signs whose sum is 0", complexOf(cell(1, 0), cell(2, 0), api.Cell{Id: 3, Dim: 1, Sides: []api.Side{{Cell: 1, Sign: 3}, {Cell: 2, Sign: -3}}}), 3, api.ErrSign)
	expectError(t, "a wrong sign, before a side that is missing", without(replaced(triangle(), cell(4, 1, 1, 2)), 5), 4, api.ErrSign)
}

func TestCheckOfClosedCells(t *testing.T) {
	for k := range 3 {
		c := triangle()
		c.Cells[6].Sides[k].Sign *= -1
		expectError(t, "a triangle with a side turned round", c, 7, api.ErrClosed)
		expectError(t, "a triangle without a side", replaced(triangle(), api.Cell{Id: 7, Dim: 2, Sides: slices.Delete(triangle().Cells[6].Sides, k, k+1)}), 7, api.ErrClosed)
	}
	expectRight(t, "a triangle turned round", replaced(triangle(), cell(7, 2, -4, 5, -6)))
	expectError(t, "an edge turned round", replaced(triangle(), cell(5, 1, 1, -3)), 7, api.ErrClosed)
	expectError(t, "a ball with equal signs", replaced(ball(5), cell(11, 5, 9, 10)), 11, api.ErrClosed)
	expectError(t, "a vertex of three edges", replaced(with(triangle(), cell(8, 0), cell(9, 1, -1, 8)), cell(7, 2, 4, -5, 6, 9)), 7, api.ErrClosed)
	expectError(t, "two wrong cells", with(replaced(ball(5), cell(11, 5, 9, 10)), cell(12, 5, 9, 10)), 11, api.ErrClosed)
}

// touching returns two circles, through the vertices 1 2 3 and 1 4 5, with the edges 6 7 8 and 9 10 11.
func touching() api.Complex {
	return with(points(5), cell(6, 1, -1, 2), cell(7, 1, -2, 3), cell(8, 1, -3, 1), cell(9, 1, -1, 4), cell(10, 1, -4, 5), cell(11, 1, -5, 1))
}

func TestCheckOfRegularCells(t *testing.T) {
	expectError(t, "a face of two circles that touch", with(touching(), cell(12, 2, 6, 7, 8, 9, 10, 11)), 12, api.ErrRegular)
	apart := with(touching(), moved(touching(), 20).Cells...)
	expectError(t, "a face of two circles apart", with(apart, cell(50, 2, 6, 7, 8, 26, 27, 28)), 50, api.ErrRegular)
	expectError(t, "a cell of two spheres apart", with(apart, cell(60, 2, 6, 7, 8), cell(61, 2, 6, 7, 8), cell(62, 2, 26, 27, 28), cell(63, 2, 26, 27, 28), cell(64, 3, 60, -61, 62, -63)), 64, api.ErrRegular)
	spheres := with(touching(), cell(12, 2, 6, 7, 8), cell(13, 2, 6, 7, 8), cell(14, 2, 9, 10, 11), cell(15, 2, 9, 10, 11))
	expectError(t, "a cell of two spheres with a common vertex", with(spheres, cell(16, 3, 12, -13, 14, -15)), 16, api.ErrRegular)
	expectRight(t, "cells of these spheres", with(spheres, cell(16, 3, 12, -13), cell(17, 3, 14, -15)))
	book := with(triangle(), cell(8, 2, 4, -5, 6), cell(9, 2, 4, -5, 6), cell(10, 2, 4, -5, 6))
	expectError(t, "a cell of four triangles with common edges", with(book, cell(11, 3, 7, -8, 9, -10)), 11, api.ErrRegular)
}

// TestOrderOfErrors has cells with several errors, and several cells with errors.
func TestOrderOfErrors(t *testing.T) {
	notRegular := cell(12, 2, 6, 7, 8, 9, 10, 11)
	notClosed := cell(13, 2, 6, 7, -8)
	neither := cell(14, 2, 6, 7, -8, 9, 10, 11)
	expectError(t, "the regular error first", with(touching(), notRegular, notClosed), 12, api.ErrRegular)
	notRegular.Id = 20
	expectError(t, "the closed error first", with(touching(), notRegular, notClosed), 13, api.ErrClosed)
	expectError(t, "neither closed nor regular", with(touching(), neither), 14, api.ErrClosed)
	for name, x := range map[string]api.Cell{"ErrSign": cell(90, 1, 1, 2), "ErrSide": cell(90, 1, 1), "ErrDim": cell(90, 10), "ErrId": cell(13, 0)} {
		wanted := map[string]api.Errno{"ErrSign": api.ErrSign, "ErrSide": api.ErrSide, "ErrDim": api.ErrDim, "ErrId": api.ErrId}[name]
		expectError(t, "a cell that is not closed, and a later one with "+name, with(touching(), notClosed, x), x.Id, wanted)
	}
}

// TestCheckAgainstTheDefinition changes right complexes, which gives all errors in all orders.
func TestCheckAgainstTheDefinition(t *testing.T) {
	g := generator(21)
	found := map[api.Errno]int{}
	expectTheError := func(c api.Complex) {
		id, e := theError(c)
		found[e]++
		expectError(t, "a complex", c, id, e)
	}
	list := []api.Complex{triangle(), ball(3), ball(4), projectivePlane(), polygon(3), simplices([][]int{{0, 1, 2, 3}}), theProduct(ball(1), ball(2))}
	list = append(list, with(touching(), cell(12, 2, 6, 7, 8), cell(13, 2, 6, 7, 8), cell(14, 3, 12, -13)), with(moved(polygon(2), 10), polygon(2).Cells...))
	for range 700 {
		expectTheError(g.wild())
		for _, c := range list {
			expectTheError(g.damaged(c))
			expectTheError(g.withRandomCell(c))
		}
	}
	for _, e := range []api.Errno{api.OK, api.ErrId, api.ErrDim, api.ErrSide, api.ErrSign, api.ErrClosed, api.ErrRegular} {
		if found[e] < 20 {
			t.Errorf("error %d occurs %d times", e, found[e])
		}
	}
}

// withRandomCell returns a right complex with a further cell that has random sides.
func (g *generator) withRandomCell(c api.Complex) api.Complex {
	x := api.Cell{Id: 1000, Dim: g.from(2, 3)}
	for _, y := range c.Cells {
		if y.Dim == x.Dim-1 && g.below(4) > 0 {
			x.Sides = append(x.Sides, api.Side{Cell: y.Id, Sign: 2*g.below(2) - 1})
		}
	}
	return with(c, x)
}
