package cells

import (
	"slices"

	"cocycle/api"
)

// Above returns the Ids of the cells that have a side with this Id as its Cell.
func Above(c api.Complex, id int) []int {
	isThis := func(side api.Side) bool { return side.Cell == id }
	return idsWhere(cellsOf(c), func(x api.Cell) bool { return slices.ContainsFunc(x.Sides, isThis) })
}

// Tops returns the Ids of the cells that are not the Cell of a side of a cell.
func Tops(c api.Complex) []int {
	list := cellsOf(c)
	isBelow := map[int]bool{}
	for _, x := range list {
		for _, side := range x.Sides {
			isBelow[side.Cell] = true
		}
	}
	return idsWhere(list, func(x api.Cell) bool { return !isBelow[x.Id] })
}

// Closure returns the Ids of the cells among ids, and of all cells that are sides of these, or sides of sides, and so on.
func Closure(c api.Complex, ids []int) []int {
	known := catalogOf(c)
	isIn := known.closure(ids)
	return idsWhere(known.cells, func(x api.Cell) bool { return isIn[known.places[x.Id]] })
}

// Sub returns the complex of the cells in Closure(c, ids).
func Sub(c api.Complex, ids []int) api.Complex {
	known := catalogOf(c)
	isIn := known.closure(ids)
	return known.selected(func(place int) bool { return isIn[place] })
}

// Union returns the complex of the cells of a and of b, and true; the zero complex and false, if cells with the same Id differ.
func Union(a, b api.Complex) (api.Complex, bool) {
	known := catalogOf(a)
	union := slices.Clone(known.cells)
	for _, y := range cellsOf(b) {
		x, ok := known.find(y.Id)
		if !ok {
			union = append(union, y)
		} else if !areEqual(x, y) {
			return api.Complex{}, false
		}
	}
	return Canon(api.Complex{Cells: union}), true
}

// Meet returns the complex of those cells of a that, with all cells of their Closure in a, are equal to cells of b.
func Meet(a, b api.Complex) api.Complex {
	known, others := catalogOf(a), catalogOf(b)
	var different []int
	for place, x := range known.cells {
		if y, ok := others.find(x.Id); !ok || !areEqual(x, y) {
			different = append(different, place)
		}
	}
	hasDifferent := reach(reversed(known.sidePlaces()), different)
	return known.selected(func(place int) bool { return !hasDifferent[place] })
}

// closure marks the cells in the closure of those with these Ids.
func (k catalog) closure(ids []int) []bool {
	var starts []int
	for _, id := range ids {
		if place, ok := k.places[id]; ok {
			starts = append(starts, place)
		}
	}
	return reach(k.sidePlaces(), starts)
}

// reversed returns, for each place, those whose lists contain it.
func reversed(lists [][]int) [][]int {
	back := make([][]int, len(lists))
	for place, list := range lists {
		for _, next := range list {
			back[next] = append(back[next], place)
		}
	}
	return back
}

// reach marks the places at which one arrives from some places, going from each one on to those in its list.
func reach(lists [][]int, starts []int) []bool {
	reached := make([]bool, len(lists))
	waiting := slices.Clone(starts)
	var visit func(place, depth int)
	visit = func(place, depth int) {
		if reached[place] {
			return
		}
		if depth > api.MaxDim { // no right complex is so high; in others, sides of sides may go on for longer than the stack permits
			waiting = append(waiting, place)
			return
		}
		reached[place] = true
		for _, next := range lists[place] {
			visit(next, depth+1)
		}
	}
	for len(waiting) > 0 {
		last := len(waiting) - 1
		place := waiting[last]
		waiting = waiting[:last]
		visit(place, 0)
	}
	return reached
}
