package cells_test

import (
	"math"
	"slices"
	"strconv"
	"strings"
	"testing"

	"cocycle/api"
	"cocycle/cells"
)

// generator makes the same numbers in each run (xorshift).
type generator uint64

func (g *generator) next() uint64 {
	*g ^= *g << 13
	*g ^= *g >> 7
	*g ^= *g << 17
	return uint64(*g)
}

func (g *generator) below(n int) int {
	return int(g.next() >> 11 % uint64(n))
}

// from returns a number from least to greatest.
func (g *generator) from(least, greatest int) int {
	return least + g.below(greatest-least+1)
}

// shuffle puts a list into another order.
func shuffle[T any](g *generator, list []T) {
	for i := range list {
		k := g.below(i + 1)
		list[i], list[k] = list[k], list[i]
	}
}

// shuffled returns a copy of a complex with the cells, and the sides of each, in another order.
func (g *generator) shuffled(c api.Complex) api.Complex {
	c = copyOf(c)
	shuffle(g, c.Cells)
	for _, x := range c.Cells {
		shuffle(g, x.Sides)
	}
	return c
}

// wild returns a complex with which almost everything is wrong.
func (g *generator) wild() api.Complex {
	var c api.Complex
	for range g.below(14) {
		x := api.Cell{Id: g.from(-1, 9), Dim: g.from(-2, 3)}
		for range g.below(4) {
			x.Sides = append(x.Sides, api.Side{Cell: g.from(-1, 9), Sign: g.from(-2, 2)})
		}
		c.Cells = append(c.Cells, x)
	}
	return c
}

// damaged returns a copy of a complex with a few changes.
func (g *generator) damaged(c api.Complex) api.Complex {
	c = g.shuffled(c)
	for range g.from(1, 3) {
		if len(c.Cells) == 0 {
			return c
		}
		i := g.below(len(c.Cells))
		c.Cells[i] = g.damagedCell(c.Cells[i], len(c.Cells))
		switch g.below(6) {
		case 0:
			c.Cells = slices.Delete(c.Cells, i, i+1)
		case 1:
			c.Cells = append(c.Cells, c.Cells[g.below(i+1)])
		}
	}
	return copyOf(c)
}

// damagedCell returns a cell with a change; about so many Ids are in use.
func (g *generator) damagedCell(x api.Cell, ids int) api.Cell {
	switch g.below(9) {
	case 0:
		x.Id = g.from(-1, ids+1)
	case 1:
		x.Dim += g.from(-1, 1)
	case 2:
		x.Sides = append(x.Sides, api.Side{Cell: g.from(0, ids), Sign: 1})
	}
	if len(x.Sides) == 0 {
		return x
	}
	k := g.below(len(x.Sides))
	switch g.below(5) {
	case 0:
		x.Sides[k].Cell = g.from(0, ids+1)
	case 1:
		x.Sides[k].Sign *= g.from(-1, 2)
	case 2:
		for i := range x.Sides {
			x.Sides[i].Sign *= -1
		}
	case 3:
		x.Sides = slices.Delete(x.Sides, k, k+1)
	}
	return x
}

// cell returns a cell with the numbers of its sides, the negative ones for those with the sign -1.
func cell(id, dim int, sides ...int) api.Cell {
	x := api.Cell{Id: id, Dim: dim}
	for _, n := range sides {
		if n < 0 {
			x.Sides = append(x.Sides, api.Side{Cell: -n, Sign: -1})
		} else {
			x.Sides = append(x.Sides, api.Side{Cell: n, Sign: 1})
		}
	}
	return x
}

func complexOf(list ...api.Cell) api.Complex {
	return api.Complex{Cells: list}
}

// with returns a copy of a complex with further cells behind the others.
func with(c api.Complex, list ...api.Cell) api.Complex {
	return api.Complex{Cells: append(copyOf(c).Cells, list...)}
}

// without returns a copy of a complex without the cells with an Id.
func without(c api.Complex, id int) api.Complex {
	c = copyOf(c)
	c.Cells = slices.DeleteFunc(c.Cells, func(x api.Cell) bool { return x.Id == id })
	return c
}

// replaced returns a copy of a complex in which a cell stands for the first one with its Id.
func replaced(c api.Complex, x api.Cell) api.Complex {
	c = copyOf(c)
	c.Cells[slices.IndexFunc(c.Cells, func(y api.Cell) bool { return x.Id == y.Id })] = x
	return c
}

// points returns so many vertices.
func points(count int) api.Complex {
	var c api.Complex
	for i := range count {
		c.Cells = append(c.Cells, cell(i+1, 0))
	}
	return c
}

// triangle is the complex of the chapter's examples, written out.
func triangle() api.Complex {
	return complexOf(cell(1, 0), cell(2, 0), cell(3, 0), cell(4, 1, -1, 2), cell(5, 1, -1, 3), cell(6, 1, -2, 3), cell(7, 2, 4, -5, 6))
}

// polygon returns a circle of n vertices 1 .. n and n edges n + 1 .. 2n, and one face 2n + 1.
func polygon(n int) api.Complex {
	c := points(n)
	face := cell(2*n+1, 2)
	for i := range n {
		c.Cells = append(c.Cells, cell(n+i+1, 1, -(i+1), (i+1)%n+1))
		face.Sides = append(face.Sides, api.Side{Cell: n + i + 1, Sign: 1})
	}
	return with(c, face)
}

// ball returns the ball of this dimension with two cells of each lesser one: 2n + 1 and 2n + 2 have the dimension n.
func ball(dim int) api.Complex {
	var c api.Complex
	for n := range dim {
		for id := 2*n + 1; id <= 2*n+2; id++ {
			if n == 0 {
				c.Cells = append(c.Cells, cell(id, 0))
			} else {
				c.Cells = append(c.Cells, cell(id, n, 2*n-1, -2*n))
			}
		}
	}
	return with(c, cell(2*dim+1, dim, 2*dim-1, -2*dim))
}

// projectivePlane returns the complex of chapter 8.
func projectivePlane() api.Complex {
	c := complexOf(cell(1, 0), cell(2, 0), cell(3, 0), cell(4, 1, -1, 2), cell(5, 1, -1, 2), cell(6, 1, -2, 3), cell(7, 1, -2, 3), cell(8, 1, -1, 3), cell(9, 1, -1, 3))
	return with(c, cell(10, 2, 4, 6, -8), cell(11, 2, 4, 7, -9), cell(12, 2, 5, 6, -9), cell(13, 2, 5, 7, -8))
}

// moved returns a complex with an amount added to all Ids.
func moved(c api.Complex, amount int) api.Complex {
	c = copyOf(c)
	for i, x := range c.Cells {
		c.Cells[i].Id += amount
		for k := range x.Sides {
			x.Sides[k].Cell += amount
		}
	}
	return c
}

// rightComplexes returns some complexes without errors, canonical ones and others.
func rightComplexes() []api.Complex {
	g := generator(3)
	list := []api.Complex{{}, points(1), points(5), triangle(), polygon(2), polygon(5), polygon(64), ball(1), ball(3), ball(8), projectivePlane()}
	list = append(list, simplices([][]int{{0, 1, 2, 3}, {2, 3, 4}, {5, 6}, {7}}), simplices([][]int{{0, 1, 2, 3, 4, 5}}), with(moved(triangle(), 100), polygon(4).Cells...))
	return append(list, g.shuffled(projectivePlane()), g.shuffled(ball(4)), g.shuffled(moved(simplices([][]int{{0, 1, 2, 3}}), math.MaxInt-100)))
}

// wrongComplexes returns some complexes with errors, and with several cells with the same Id.
func wrongComplexes() []api.Complex {
	g := generator(4)
	list := []api.Complex{with(triangle(), triangle().Cells...), moved(triangle(), -5), complexOf(cell(1, 1, 1)), complexOf(cell(1, 1, 2), cell(2, 1, 1, 1)), points(4001)}
	list = append(list, complexOf(cell(math.MinInt, math.MinInt, math.MaxInt), cell(math.MaxInt, math.MaxInt, 1, -1), cell(0, -1)))
	list = append(list, complexOf(api.Cell{Id: 1, Dim: 1, Sides: []api.Side{{Cell: math.MinInt, Sign: math.MinInt}, {Cell: math.MaxInt, Sign: math.MaxInt}}}))
	for range 60 {
		list = append(list, g.wild(), g.damaged(triangle()), g.damaged(projectivePlane()))
	}
	return list
}

func allComplexes() []api.Complex {
	return append(rightComplexes(), wrongComplexes()...)
}

// copyOf returns a copy of a complex that shares no memory with it.
func copyOf(c api.Complex) api.Complex {
	list := make([]api.Cell, 0, len(c.Cells))
	for _, x := range c.Cells {
		x.Sides = append(make([]api.Side, 0, len(x.Sides)), x.Sides...)
		list = append(list, x)
	}
	return api.Complex{Cells: list}
}

func sameCell(x, y api.Cell) bool {
	return x.Id == y.Id && x.Dim == y.Dim && slices.Equal(x.Sides, y.Sides)
}

// same reports whether two complexes have the same cells with the same sides in the same order.
func same(a, b api.Complex) bool {
	return slices.EqualFunc(a.Cells, b.Cells, sameCell)
}

// show writes a complex such that it can be read.
func show(c api.Complex) string {
	var b strings.Builder
	for i, x := range c.Cells {
		if i == 40 {
			b.WriteString(" ..")
			break
		}
		b.WriteString(" " + strconv.Itoa(x.Id) + "[" + strconv.Itoa(x.Dim) + ":")
		for k, side := range x.Sides {
			if k == 10 {
				b.WriteString(" ..")
				break
			}
			b.WriteString(" " + strconv.Itoa(side.Cell) + "*" + strconv.Itoa(side.Sign))
		}
		b.WriteString("]")
	}
	return "{" + b.String() + " }"
}

// expect fails the test if a result is not the wanted complex, as it stands.
func expect(t *testing.T, call string, got, want api.Complex) {
	t.Helper()
	if !same(got, want) {
		t.Fatalf("%s: %s, want %s", call, show(got), show(want))
	}
}

// expectIds fails the test if a result is not the wanted list.
func expectIds(t *testing.T, call string, got []int, want ...int) {
	t.Helper()
	if !slices.Equal(got, want) {
		t.Fatalf("%s: %v, want %v", call, got, want)
	}
}

// expectRight fails the test if Check finds an error.
func expectRight(t *testing.T, name string, c api.Complex) {
	t.Helper()
	expectError(t, name, c, 0, api.OK)
}

// expectError fails the test if Check does not find this error of this cell.
func expectError(t *testing.T, name string, c api.Complex, id int, e api.Errno) {
	t.Helper()
	if gotId, got := cells.Check(c); gotId != id || got != e {
		t.Errorf("Check of %s: %d, %d, want %d, %d: %s", name, gotId, got, id, e, show(c))
	}
}
