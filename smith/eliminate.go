package smith

import (
	"cocycle/api"
	"cocycle/wide"
)

// pivot is a place of a line with an element other than 0, by which the other lines are reduced there.
type pivot struct{ line, place int }

// elimination is the state of one elimination: the lines that are finished, each with a pivot, in order. The others have zeros at their places.
type elimination struct {
	side
	finished        []pivot
	isLineFinished  []bool
	isPlaceFinished []bool
}

func newElimination(s side) *elimination {
	return &elimination{side: s, isLineFinished: make([]bool, s.lines), isPlaceFinished: make([]bool, s.places)}
}

// eliminate combines lines until each one has a pivot, or zeros alone. A line has zeros at the places of the pivots that were found before its own, and elements that are at most half as great as the pivots at the places of those found later.
func eliminate(s side) {
	e := newElimination(s)
	for {
		p, ok := e.choose()
		if !ok {
			break
		}
		if e.clear(p) {
			e.finish(p)
		}
	}
	e.reduceFinished()
}

// choose returns the least element that is not 0 of the lines and places that are not finished, if there is one: with greater ones, numbers would grow much faster. Among several ones it returns one with few others beside it, so that few are changed, and zeros stay.
func (e *elimination) choose() (best pivot, found bool) {
	ofLines, ofPlaces := e.counts()
	var least api.Wide
	leastCost := 0
	for i := range e.lines {
		for j := range e.places {
			x := e.at(i, j)
			if isZero(x) || e.isLineFinished[i] || e.isPlaceFinished[j] {
				continue
			}
			order, cost := compareSizes(x, least), (ofLines[i]-1)*(ofPlaces[j]-1)
			if !found || order < 0 || order == 0 && cost < leastCost {
				best, least, leastCost, found = pivot{i, j}, x, cost, true
			}
		}
	}
	return best, found
}

// clear reduces all other lines that are not finished at the place of a pivot, and reports whether they are 0 there now. If not, there is a lesser element than the pivot, so this ends at some time.
func (e *elimination) clear(p pivot) bool {
	cleared := true
	for i := range e.lines {
		if i != p.line && !e.isLineFinished[i] && !e.reduce(i, p) {
			cleared = false
		}
	}
	return cleared
}

// reduce makes the element of a line at the place of a pivot at most half as great as the pivot, and reports whether it is 0 now.
func (e *elimination) reduce(line int, p pivot) bool {
	x := e.at(line, p.place)
	if isZero(x) {
		return true
	}
	quotient := nearestQuotient(x, e.at(p.line, p.place))
	if !isZero(quotient) {
		e.add(line, p.line, wide.Neg(quotient))
	}
	return isZero(e.at(line, p.place))
}

func (e *elimination) finish(p pivot) {
	e.isLineFinished[p.line], e.isPlaceFinished[p.place] = true, true
	e.finished = append(e.finished, p)
}

// reduceFinished reduces each finished line at the places of the later pivots. The last lines come first: if multiples of lines were subtracted that are not reduced yet, numbers would grow much longer.
func (e *elimination) reduceFinished() {
	for k := len(e.finished) - 1; k >= 0; k-- {
		for _, p := range e.finished[k+1:] {
			e.reduce(e.finished[k].line, p)
		}
	}
}

// nearestQuotient returns the integer that is nearest to a / b, for b other than 0.
func nearestQuotient(a, b api.Wide) api.Wide {
	quotient, rest, _ := wide.Quo(a, b)
	if compareSizes(wide.Add(rest, rest), b) > 0 {
		return wide.Add(quotient, wide.From(wide.Sign(b)))
	}
	return quotient
}
