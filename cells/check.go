package cells

import (
	"slices"

	"cocycle/api"
)

// Check returns the Id of the first cell with an error, and this error; 0 and OK, if the complex is right.
func Check(c api.Complex) (int, api.Errno) {
	if len(c.Cells) > api.MaxCells {
		return 0, api.ErrMany
	}
	known := catalogOf(c)
	previous := 0
	for _, x := range inOrder(c.Cells, compareIds) {
		if e := known.formError(x, x.Id <= previous); e != api.OK {
			return x.Id, e
		}
		previous = x.Id
	}
	look := newInspection(known)
	for place, x := range known.cells {
		if e := look.boundaryError(place); e != api.OK {
			return x.Id, e
		}
	}
	return 0, api.OK
}

func isRight(c api.Complex) bool {
	_, e := Check(c)
	return e == api.OK
}

// formError returns the first error of a cell that shows without the sides of its sides.
func (k catalog) formError(x api.Cell, hasWrongId bool) api.Errno {
	switch {
	case hasWrongId:
		return api.ErrId
	case x.Dim < 0 || x.Dim > api.MaxDim:
		return api.ErrDim
	case !k.hasRightSides(x):
		return api.ErrSide
	case !hasRightSigns(x):
		return api.ErrSign
	}
	return api.OK
}

// hasRightSides reports whether a cell has a permitted number of different sides, all of which are cells of one dimension less.
func (k catalog) hasRightSides(x api.Cell) bool {
	if !isSideCount(len(x.Sides), x.Dim) {
		return false
	}
	sides := inOrder(x.Sides, compareSides)
	for i, side := range sides {
		y, ok := k.find(side.Cell)
		if !ok || y.Dim != x.Dim-1 || i > 0 && sides[i-1].Cell == side.Cell {
			return false
		}
	}
	return true
}

// isSideCount reports whether a cell of this dimension may have so many sides.
func isSideCount(count, dim int) bool {
	switch dim {
	case 0:
		return count == 0
	case 1:
		return count == 2
	}
	return count >= 2 && count <= api.MaxSides
}

// hasRightSigns reports whether the signs of a cell with permitted sides are permitted.
func hasRightSigns(x api.Cell) bool {
	isWrong := func(side api.Side) bool { return side.Sign != 1 && side.Sign != -1 }
	if slices.ContainsFunc(x.Sides, isWrong) {
		return false
	}
	return x.Dim != 1 || x.Sides[0].Sign != x.Sides[1].Sign
}
