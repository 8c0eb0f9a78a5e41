package smith

import (
	"iter"

	"cocycle/api"
	"cocycle/wide"
)

// makeNormal makes D normal, and returns the number of its elements that are not 0. Independent rows are settled first, and then all of them: many transforms lead to zeros in dependent rows, and an elimination of all at once would find long ones.
func (w *work) makeNormal() (rank int) {
	w.settle(w.bringUpIndependentRows())
	w.settle(w.D.Rows)
	rank = w.moveToDiagonal()
	w.makeDivide(rank)
	return rank
}

// settle eliminates in the first rows of D, so many of them, and in their columns by turns, until none of them has several elements that are not 0.
//
// This ends. Call an element settled if it is the only one that is not 0 in its row and in its column; it stays then. Let m be the least absolute value of the others: it does not grow. If it does not get less, no division by an element of this size leaves a remainder, so that the first pivot of this size ends as the only element at its place. The next elimination has it as the only element of a line, and chooses such elements before others of this size. The first one ends as the only element at its place, too, because finished lines are reduced there; now it is settled. So after two eliminations, more elements are settled, or m is less.
func (w *work) settle(rows int) {
	sides := [2]side{w.rows(rows), w.columns(rows)}
	for turn := 0; !sides[0].isSettled(); turn++ {
		eliminate(sides[turn%2])
	}
}

// moveToDiagonal moves the elements of a settled D to its diagonal, the least ones first, makes them positive, and returns their number.
func (w *work) moveToDiagonal() (rank int) {
	e := newElimination(w.rows(w.D.Rows))
	for {
		p, ok := e.choose()
		if !ok {
			return rank
		}
		w.exchangeRows(p.line, rank)
		w.exchangeColumns(p.place, rank)
		if e.at(rank, rank).Neg {
			w.negateRow(rank)
		}
		e.finish(pivot{rank, rank})
		rank++
	}
}

// makeDivide makes each of the first elements of the diagonal of D, so many of them, divide the next one. Two of them become their greatest common divisor and their least common multiple: for each prime number, the one in which it has the lesser exponent comes first. So the pairs that sort every list sort the exponents of all prime numbers.
func (w *work) makeDivide(rank int) {
	for i, k := range sortingPairs(rank) {
		if !divides(w.onDiagonal(i), w.onDiagonal(k)) {
			w.spread(i, k)
		}
	}
}

// sortingPairs visits pairs of places of a list with so many elements: exchanging the two that are not in order, pair by pair, sorts it (Batcher's merge exchange). No element takes part in many pairs, which keeps the transforms short.
func sortingPairs(count int) iter.Seq2[int, int] {
	return func(yield func(i, k int) bool) {
		half := 1
		for 2*half < count {
			half *= 2
		}
		for block := half; block > 0; block /= 2 {
			for span, bit, distance := half, 0, block; ; span, bit, distance = span/2, block, span-block {
				for i := range count - distance {
					if i&block == bit && !yield(i, i+distance) {
						return
					}
				}
				if span == block {
					break
				}
			}
		}
	}
}

func (w *work) onDiagonal(k int) api.Wide {
	return w.D.E[k*w.D.Cols+k]
}

// spread replaces two elements of the diagonal, a and b, the only ones in their rows and columns, by their greatest common divisor and their least common multiple.
func (w *work) spread(i, k int) {
	a, b := w.onDiagonal(i), w.onDiagonal(k)
	divisor, x, y := wide.Gcd(a, b)
	if divisor != b { // a 0 / 0 b becomes a g / 0 b, then 0 g / -ab/g b, and then 0 g / -ab/g 0
		ofA, _, _ := wide.Quo(a, divisor)
		ofB, _, _ := wide.Quo(b, divisor)
		w.addRow(i, k, y)
		w.addColumn(k, i, x)
		w.addColumn(i, k, wide.Neg(ofA))
		w.addRow(k, i, wide.Neg(ofB))
		w.negateRow(k)
	} else { // a 0 / 0 b becomes 0 b / a 0
		w.exchangeRows(i, k)
	}
	w.exchangeColumns(i, k)
}
