package cells

import (
	"cmp"
	"maps"
	"slices"

	"cocycle/api"
)

// simplex is a set of numbers: the first ones of the array, in increasing order; the others are 0.
type simplex struct {
	size    int
	numbers [api.MaxDim + 1]int
}

// Simplicial returns the complex with a cell for each nonempty set of numbers that is contained in an element of l; the zero complex, if there are too many. Elements with negative numbers, or with too many different ones, are left out.
func Simplicial(l [][]int) api.Complex {
	all := map[simplex]bool{}
	var collect func(s simplex)
	collect = func(s simplex) {
		if s.size == 0 || all[s] || len(all) > api.MaxCells { // a simplex that is there has all its faces there
			return
		}
		all[s] = true
		for k := range s.size {
			collect(s.without(k))
		}
	}
	for _, numbers := range l {
		if s, ok := simplexOf(numbers); ok {
			collect(s)
		}
	}
	if len(all) > api.MaxCells {
		return api.Complex{}
	}
	return complexOf(sorted(slices.Collect(maps.Keys(all)), compareSimplices))
}

// simplexOf returns the set of the numbers in a list, and true, if it is permitted.
func simplexOf(list []int) (simplex, bool) {
	var s simplex
	for _, n := range list {
		place, found := slices.BinarySearch(s.numbers[:s.size], n)
		if found {
			continue
		}
		if n < 0 || s.size == len(s.numbers) {
			return simplex{}, false
		}
		copy(s.numbers[place+1:], s.numbers[place:s.size])
		s.numbers[place] = n
		s.size++
	}
	return s, true
}

// without returns the simplex without its number k, counted from 0 on.
func (s simplex) without(k int) simplex {
	s.size--
	copy(s.numbers[k:], s.numbers[k+1:])
	s.numbers[s.size] = 0 // a full array has no 0 behind its last number
	return s
}

// compareSimplices compares dimensions, and then numbers.
func compareSimplices(s, t simplex) int {
	return cmp.Or(cmp.Compare(s.size, t.size), slices.Compare(s.numbers[:], t.numbers[:]))
}

// complexOf returns the complex of simplices, numbered from 1 on, among which are all their faces.
func complexOf(list []simplex) api.Complex {
	ids := make(map[simplex]int, len(list))
	for i, s := range list {
		ids[s] = i + 1
	}
	var c api.Complex
	for i, s := range list {
		x := api.Cell{Id: i + 1, Dim: s.size - 1}
		for k := range s.size {
			if s.size > 1 {
				x.Sides = append(x.Sides, api.Side{Cell: ids[s.without(k)], Sign: parity(k)})
			}
		}
		c.Cells = append(c.Cells, x)
	}
	return Canon(c)
}
