package cells

import (
	"slices"

	"cocycle/api"
)

// cellsOf returns the cells of a complex in the order of their Ids, each Id once; their sides are in the order of the argument. It is for reading only: the list, and the sides, may be those of the argument.
func cellsOf(c api.Complex) []api.Cell {
	list := inOrder(c.Cells, compareIds)
	for i := 1; i < len(list); i++ {
		if haveSameId(list[i-1], list[i]) {
			return slices.CompactFunc(slices.Clone(list), haveSameId)
		}
	}
	return list
}

func haveSameId(x, y api.Cell) bool {
	return x.Id == y.Id
}

// idsWhere returns the Ids of those cells of a list for which something holds.
func idsWhere(list []api.Cell, holds func(x api.Cell) bool) []int {
	var ids []int
	for _, x := range list {
		if holds(x) {
			ids = append(ids, x.Id)
		}
	}
	return ids
}

// placesOf returns where each number of a list is.
func placesOf(list []int) map[int]int {
	places := make(map[int]int, len(list))
	for place, n := range list {
		places[n] = place
	}
	return places
}

// catalog holds the cells of a complex, as cellsOf returns them, and the place of each Id among them.
type catalog struct {
	cells  []api.Cell
	places map[int]int
}

func catalogOf(c api.Complex) catalog {
	list := cellsOf(c)
	all := idsWhere(list, func(api.Cell) bool { return true })
	return catalog{list, placesOf(all)}
}

// find returns the cell with an Id, and true, if there is one.
func (k catalog) find(id int) (api.Cell, bool) {
	place, ok := k.places[id]
	if !ok {
		return api.Cell{}, false
	}
	return k.cells[place], true
}

// sidePlaces returns, for each cell, the places of its sides, as far as these are cells.
func (k catalog) sidePlaces() [][]int {
	lists := make([][]int, len(k.cells))
	for i, x := range k.cells {
		lists[i] = make([]int, 0, len(x.Sides))
		for _, side := range x.Sides {
			if place, ok := k.places[side.Cell]; ok {
				lists[i] = append(lists[i], place)
			}
		}
	}
	return lists
}

// selected returns the canonical complex of the cells at some places.
func (k catalog) selected(isSelected func(place int) bool) api.Complex {
	var list []api.Cell
	for place, x := range k.cells {
		if isSelected(place) {
			list = append(list, x)
		}
	}
	return Canon(api.Complex{Cells: list})
}
