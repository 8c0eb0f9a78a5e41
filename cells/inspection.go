package cells

import "cocycle/api"

// inspection looks at the boundaries of cells, one after the other. All cells have passed formError: all sides are cells.
type inspection struct {
	catalog
	sides   [][]int  // for each cell, the places of its sides
	corners []corner // for each cell, what it is to the cell that is looked at; zero values in between
}

// corner is what is known about a side of sides.
type corner struct {
	sum   int // of the products of signs
	count int // of the sides that have it
	first int // the number of the first one of these
}

func newInspection(known catalog) inspection {
	return inspection{known, known.sidePlaces(), make([]corner, len(known.cells))}
}

// boundaryError returns the first error of the cell at a place that shows in the sides of its sides.
func (n inspection) boundaryError(place int) api.Errno {
	x := n.cells[place]
	if x.Dim < 2 {
		return api.OK
	}
	parts := newPartition(len(x.Sides))
	var met []int
	for i, side := range n.sides[place] {
		for k, z := range n.sides[side] {
			c := &n.corners[z]
			if c.count == 0 {
				c.first = i
				met = append(met, z)
			}
			parts.join(c.first, i)
			c.count++
			c.sum += x.Sides[i].Sign * n.cells[side].Sides[k].Sign
		}
	}
	e := n.takeCorners(met)
	if e == api.OK && parts.count > 1 {
		return api.ErrRegular
	}
	return e
}

// takeCorners returns the first error that one of these corners has, and clears all of them.
func (n inspection) takeCorners(met []int) api.Errno {
	isClosed, isRegular := true, true
	for _, z := range met {
		isClosed = isClosed && n.corners[z].sum == 0
		isRegular = isRegular && n.corners[z].count == 2
		n.corners[z] = corner{}
	}
	switch {
	case !isClosed:
		return api.ErrClosed
	case !isRegular:
		return api.ErrRegular
	}
	return api.OK
}

// partition tells which sides of a cell are connected: going from a side to its parent, and on to those, one comes to the side that stands for its part, which is its own parent.
type partition struct {
	parents [api.MaxSides]int
	count   int // of the parts
}

// newPartition returns the partition of so many sides, at most MaxSides, of which none are connected.
func newPartition(sides int) *partition {
	p := &partition{count: sides}
	for i := range p.parents {
		p.parents[i] = i
	}
	return p
}

// join connects two sides.
func (p *partition) join(i, k int) {
	i, k = p.find(i), p.find(k)
	if i != k {
		p.parents[i] = k
		p.count--
	}
}

// find returns the side that stands for the part of a side.
func (p *partition) find(i int) int {
	for p.parents[i] != i {
		p.parents[i] = p.parents[p.parents[i]] // shortens the way for the next time
		i = p.parents[i]
	}
	return i
}
