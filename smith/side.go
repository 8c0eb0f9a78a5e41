package smith

import (
	"strings"

	"cocycle/api"
)

// side is a matrix as an elimination sees it: lines that are combined, with elements at places. From one side the lines are the rows of the matrix, from the other one its columns.
type side struct {
	lines, places       int
	lineStep, placeStep int
	elements            []api.Wide
	add                 func(target, source int, factor api.Wide)
}

// rows returns the side whose lines are the first rows of D, so many of them.
func (w *work) rows(count int) side {
	return side{count, w.D.Cols, w.D.Cols, 1, w.D.E, w.addRow}
}

// columns returns the side whose lines are the columns of D; the elimination sees only their first places, so many of them.
func (w *work) columns(count int) side {
	return side{w.D.Cols, count, 1, w.D.Cols, w.D.E, w.addColumn}
}

func (s side) at(line, place int) api.Wide {
	return s.elements[line*s.lineStep+place*s.placeStep]
}

// counts returns how many elements are not 0, for each line and for each place.
func (s side) counts() (ofLines, ofPlaces []int) {
	ofLines, ofPlaces = make([]int, s.lines), make([]int, s.places)
	for i := range s.lines {
		for j := range s.places {
			if !isZero(s.at(i, j)) {
				ofLines[i]++
				ofPlaces[j]++
			}
		}
	}
	return ofLines, ofPlaces
}

// isSettled reports whether no line and no place has several elements that are not 0.
func (s side) isSettled() bool {
	ofLines, ofPlaces := s.counts()
	for _, list := range [2][]int{ofLines, ofPlaces} {
		for _, count := range list {
			if count > 1 {
				return false
			}
		}
	}
	return true
}

// compareSizes returns a negative number, 0, or a positive one, if the absolute value of a is less than that of b, the same, or greater; both are canonical.
func compareSizes(a, b api.Wide) int {
	if len(a.Mag) != len(b.Mag) {
		return len(a.Mag) - len(b.Mag)
	}
	return strings.Compare(a.Mag, b.Mag)
}
