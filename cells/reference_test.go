package cells_test

import (
	"slices"

	"cocycle/api"
)

// This file says again what the chapter says, as literally as possible, and slowly: the tests compare the package with it.

// ordered returns a copy of a list in the order of its keys, by exchanging neighbours; those with equal keys stay in their order.
func ordered[T any](list []T, key func(T) int) []T {
	list = append([]T{}, list...)
	for end := len(list) - 1; end > 0; end-- {
		for i := range end {
			if key(list[i+1]) < key(list[i]) {
				list[i], list[i+1] = list[i+1], list[i]
			}
		}
	}
	return list
}

func idOf(x api.Cell) int { return x.Id }

func cellOf(s api.Side) int { return s.Cell }

// canonical returns the canonical form.
func canonical(c api.Complex) api.Complex {
	list := ordered(c.Cells, idOf)
	for i := range list {
		list[i].Sides = ordered(list[i].Sides, cellOf)
	}
	return api.Complex{Cells: list}
}

// theCells returns the first cell with each Id, in canonical form.
func theCells(c api.Complex) []api.Cell {
	var list []api.Cell
	for _, x := range canonical(c).Cells {
		if !slices.ContainsFunc(list, func(y api.Cell) bool { return y.Id == x.Id }) {
			list = append(list, x)
		}
	}
	return list
}

// theCell returns the cell with an Id, if there is one.
func theCell(c api.Complex, id int) (api.Cell, bool) {
	for _, x := range theCells(c) {
		if x.Id == id {
			return x, true
		}
	}
	return api.Cell{}, false
}

// signsOf returns the signs of all sides of a cell with an Id.
func signsOf(x api.Cell, id int) []int {
	var signs []int
	for _, side := range x.Sides {
		if side.Cell == id {
			signs = append(signs, side.Sign)
		}
	}
	return signs
}

func isSideOf(y, x api.Cell) bool {
	return len(signsOf(x, y.Id)) > 0
}

// theIds returns the Ids of the cells for which something holds.
func theIds(c api.Complex, holds func(x api.Cell) bool) []int {
	var ids []int
	for _, x := range theCells(c) {
		if holds(x) {
			ids = append(ids, x.Id)
		}
	}
	return ids
}

// theClosure adds sides until there are none to add.
func theClosure(c api.Complex, ids []int) []int {
	list := theCells(c)
	isIn := map[int]bool{}
	for _, id := range ids {
		isIn[id] = true
	}
	for range list {
		for _, x := range list {
			for _, side := range x.Sides {
				isIn[side.Cell] = isIn[side.Cell] || isIn[x.Id]
			}
		}
	}
	return theIds(c, func(x api.Cell) bool { return isIn[x.Id] })
}

// theSub returns the complex of the cells with some Ids.
func theSub(c api.Complex, ids []int) api.Complex {
	var sub api.Complex
	for _, x := range theCells(c) {
		if slices.Contains(ids, x.Id) {
			sub.Cells = append(sub.Cells, x)
		}
	}
	return sub
}

func theUnion(a, b api.Complex) (api.Complex, bool) {
	union := api.Complex{Cells: theCells(a)}
	for _, y := range theCells(b) {
		x, ok := theCell(a, y.Id)
		if ok && !sameCell(x, y) {
			return api.Complex{}, false
		}
		if !ok {
			union.Cells = append(union.Cells, y)
		}
	}
	return canonical(union), true
}

func theMeet(a, b api.Complex) api.Complex {
	differs := func(id int) bool {
		x, _ := theCell(a, id)
		y, ok := theCell(b, id)
		return !ok || !sameCell(x, y)
	}
	return theSub(a, theIds(a, func(x api.Cell) bool { return !slices.ContainsFunc(theClosure(a, []int{x.Id}), differs) }))
}

// theError returns what Check finds.
func theError(c api.Complex) (int, api.Errno) {
	if len(c.Cells) > 4000 {
		return 0, api.ErrMany
	}
	list := canonical(c).Cells
	for i, x := range list {
		before := slices.ContainsFunc(list[:i], func(y api.Cell) bool { return y.Id == x.Id })
		switch {
		case x.Id < 1 || before:
			return x.Id, api.ErrId
		case x.Dim < 0 || x.Dim > 8:
			return x.Id, api.ErrDim
		case hasErrSide(c, x):
			return x.Id, api.ErrSide
		case hasErrSign(x):
			return x.Id, api.ErrSign
		}
	}
	for _, x := range list {
		switch {
		case x.Dim > 1 && hasErrClosed(c, x):
			return x.Id, api.ErrClosed
		case x.Dim > 1 && hasErrRegular(c, x):
			return x.Id, api.ErrRegular
		}
	}
	return 0, api.OK
}

func hasErrSide(c api.Complex, x api.Cell) bool {
	count := len(x.Sides)
	if x.Dim == 0 && count != 0 || x.Dim == 1 && count != 2 || x.Dim > 1 && (count < 2 || count > 64) {
		return true
	}
	for _, side := range x.Sides {
		y, ok := theCell(c, side.Cell)
		if !ok || y.Dim != x.Dim-1 || len(signsOf(x, side.Cell)) > 1 {
			return true
		}
	}
	return false
}

func hasErrSign(x api.Cell) bool {
	sum := 0
	for _, side := range x.Sides {
		if side.Sign*side.Sign != 1 {
			return true
		}
		sum += side.Sign
	}
	return x.Dim == 1 && sum != 0
}

func hasErrClosed(c api.Complex, x api.Cell) bool {
	for _, z := range theCells(c) {
		sum := 0
		for _, y := range theCells(c) {
			for _, sign := range signsOf(x, y.Id) {
				for _, other := range signsOf(y, z.Id) {
					sum += sign * other
				}
			}
		}
		if sum != 0 {
			return true
		}
	}
	return false
}

func hasErrRegular(c api.Complex, x api.Cell) bool {
	sides := slices.DeleteFunc(theCells(c), func(y api.Cell) bool { return !isSideOf(y, x) })
	for _, z := range theCells(c) {
		count := 0
		for _, y := range sides {
			count += len(signsOf(y, z.Id))
		}
		if count != 0 && count != 2 {
			return true
		}
	}
	connected := map[int]bool{sides[0].Id: true}
	for range sides {
		for _, y := range sides {
			for _, other := range sides {
				haveCommon := slices.ContainsFunc(y.Sides, func(side api.Side) bool { return len(signsOf(other, side.Cell)) > 0 })
				connected[other.Id] = connected[other.Id] || connected[y.Id] && haveCommon
			}
		}
	}
	return slices.ContainsFunc(sides, func(y api.Cell) bool { return !connected[y.Id] })
}

// simplices returns the complex of sets of numbers, without limits.
func simplices(l [][]int) api.Complex {
	var sets [][]int
	for _, numbers := range l {
		numbers = slices.Compact(slices.Sorted(slices.Values(numbers)))
		for mask := 1; mask < 1<<len(numbers); mask++ {
			var set []int
			for k, n := range numbers {
				if mask>>k&1 == 1 {
					set = append(set, n)
				}
			}
			sets = append(sets, set)
		}
	}
	slices.SortFunc(sets, compareSets)
	sets = slices.CompactFunc(sets, func(a, b []int) bool { return slices.Equal(a, b) })
	var c api.Complex
	for i, set := range sets {
		x := api.Cell{Id: i + 1, Dim: len(set) - 1}
		sign := 1
		for k := range set {
			face := slices.Concat(set[:k], set[k+1:])
			if place, ok := slices.BinarySearchFunc(sets, face, compareSets); ok {
				x.Sides = append(x.Sides, api.Side{Cell: place + 1, Sign: sign})
			}
			sign = -sign
		}
		c.Cells = append(c.Cells, x)
	}
	return canonical(c)
}

// compareSets compares sets by size, and then number by number.
func compareSets(a, b []int) int {
	if len(a) != len(b) {
		return len(a) - len(b)
	}
	return slices.Compare(a, b)
}

// theProduct returns the product of right complexes, right or not.
func theProduct(a, b api.Complex) api.Complex {
	index := func(c api.Complex, id int) int {
		return slices.IndexFunc(theCells(c), func(x api.Cell) bool { return x.Id == id })
	}
	id := func(x, y int) int { return index(a, x)*len(b.Cells) + index(b, y) + 1 }
	var c api.Complex
	for _, x := range a.Cells {
		for _, y := range b.Cells {
			cell := api.Cell{Id: id(x.Id, y.Id), Dim: x.Dim + y.Dim}
			for _, s := range x.Sides {
				cell.Sides = append(cell.Sides, api.Side{Cell: id(s.Cell, y.Id), Sign: s.Sign})
			}
			sign := 1
			for range x.Dim {
				sign *= -1
			}
			for _, s := range y.Sides {
				cell.Sides = append(cell.Sides, api.Side{Cell: id(x.Id, s.Cell), Sign: sign * s.Sign})
			}
			c.Cells = append(c.Cells, cell)
		}
	}
	return canonical(c)
}
