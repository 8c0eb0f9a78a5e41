package cells

import (
	"cmp"
	"slices"

	"cocycle/api"
)

// sorted returns a copy of a list in order; elements that compare as equal stay in their order.
func sorted[T any](list []T, compare func(x, y T) int) []T {
	ordered := slices.Clone(list)
	slices.SortStableFunc(ordered, compare)
	return ordered
}

// inOrder does what sorted does, but returns the list itself if that is in order already, as most are: it is for reading only.
func inOrder[T any](list []T, compare func(x, y T) int) []T {
	if slices.IsSortedFunc(list, compare) {
		return list
	}
	return sorted(list, compare)
}

func compareIds(x, y api.Cell) int {
	return cmp.Compare(x.Id, y.Id)
}

func compareSides(x, y api.Side) int {
	return cmp.Compare(x.Cell, y.Cell)
}

// canonicalCell returns a copy of a cell that shares no memory with it, with its sides in order.
func canonicalCell(x api.Cell) api.Cell {
	x.Sides = sorted(x.Sides, compareSides)
	return x
}

// canonicalCells returns copies of cells, in order, that share no memory with them.
func canonicalCells(list []api.Cell) []api.Cell {
	ordered := sorted(list, compareIds)
	for i, x := range ordered {
		ordered[i] = canonicalCell(x)
	}
	return ordered
}

// areEqual reports whether two cells are equal when their sides are in order.
func areEqual(x, y api.Cell) bool {
	return x.Id == y.Id && x.Dim == y.Dim && slices.Equal(inOrder(x.Sides, compareSides), inOrder(y.Sides, compareSides))
}
