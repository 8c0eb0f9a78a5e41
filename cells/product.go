package cells

import "cocycle/api"

// Product returns the product of two right complexes, if it is right; otherwise the zero complex.
func Product(a, b api.Complex) api.Complex {
	if !isRight(a) || !isRight(b) || len(a.Cells)*len(b.Cells) > api.MaxCells {
		return api.Complex{}
	}
	product := Canon(productOf(catalogOf(a), catalogOf(b)))
	if !isRight(product) {
		return api.Complex{}
	}
	return product
}

// productOf returns the product of two right complexes, right or not, with the sides in any order.
func productOf(a, b catalog) api.Complex {
	idOf := func(x, y int) int { return a.places[x]*len(b.cells) + b.places[y] + 1 }
	var c api.Complex
	for _, x := range a.cells {
		for _, y := range b.cells {
			cell := api.Cell{Id: idOf(x.Id, y.Id), Dim: x.Dim + y.Dim}
			for _, side := range x.Sides {
				cell.Sides = append(cell.Sides, api.Side{Cell: idOf(side.Cell, y.Id), Sign: side.Sign})
			}
			for _, side := range y.Sides {
				cell.Sides = append(cell.Sides, api.Side{Cell: idOf(x.Id, side.Cell), Sign: side.Sign * parity(x.Dim)})
			}
			c.Cells = append(c.Cells, cell)
		}
	}
	return c
}
