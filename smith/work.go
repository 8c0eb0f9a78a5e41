package smith

import (
	"slices"

	"cocycle/api"
	"cocycle/matrix"
	"cocycle/wide"
)

// work is the state of a computation: for the matrix a whose form is wanted, D is always U a V. The inverses of U and V are found at the end, because their numbers are much longer on the way.
type work struct{ api.Smith }

func newWork(a api.Mat) *work {
	return &work{api.Smith{U: matrix.One(a.Rows), D: copyOf(a), V: matrix.One(a.Cols)}}
}

// newWorkWithoutTransforms returns a work for those who want D alone: the rows of its U and the columns of its V have no elements.
func newWorkWithoutTransforms(a api.Mat) *work {
	return &work{api.Smith{U: matrix.Zero(a.Rows, 0), D: copyOf(a), V: matrix.Zero(0, a.Cols)}}
}

func copyOf(a api.Mat) api.Mat {
	return api.Mat{Rows: a.Rows, Cols: a.Cols, E: slices.Clone(a.E)}
}

// invert finds the inverses of U and V, which exist, because rows and columns are combined such that the determinants stay 1 or -1.
func (w *work) invert() {
	w.UI, _ = matrix.Inverse(w.U)
	w.VI, _ = matrix.Inverse(w.V)
}

// addRow adds factor times row source of D to row target.
func (w *work) addRow(target, source int, factor api.Wide) {
	addMultiple(w.D.E, rowOf(w.D, target), rowOf(w.D, source), factor)
	addMultiple(w.U.E, rowOf(w.U, target), rowOf(w.U, source), factor)
}

// addColumn adds factor times column source of D to column target.
func (w *work) addColumn(target, source int, factor api.Wide) {
	addMultiple(w.D.E, columnOf(w.D, target), columnOf(w.D, source), factor)
	addMultiple(w.V.E, columnOf(w.V, target), columnOf(w.V, source), factor)
}

func (w *work) exchangeRows(i, k int) {
	exchange(w.D.E, rowOf(w.D, i), rowOf(w.D, k))
	exchange(w.U.E, rowOf(w.U, i), rowOf(w.U, k))
}

func (w *work) exchangeColumns(j, k int) {
	exchange(w.D.E, columnOf(w.D, j), columnOf(w.D, k))
	exchange(w.V.E, columnOf(w.V, j), columnOf(w.V, k))
}

func (w *work) negateRow(i int) {
	negate(w.D.E, rowOf(w.D, i))
	negate(w.U.E, rowOf(w.U, i))
}

// line is a row or a column of a matrix: where its elements are.
type line struct{ first, step, count int }

func rowOf(m api.Mat, i int) line {
	return line{i * m.Cols, 1, m.Cols}
}

func columnOf(m api.Mat, j int) line {
	return line{j, m.Cols, m.Rows}
}

// element returns where element k is.
func (l line) element(k int) int {
	return l.first + k*l.step
}

// addMultiple adds factor times the line source to the line target.
func addMultiple(elements []api.Wide, target, source line, factor api.Wide) {
	for k := range source.count {
		x := elements[source.element(k)]
		if isZero(x) { // most elements of the matrices of complexes are
			continue
		}
		place := target.element(k)
		elements[place] = wide.Add(elements[place], wide.Mul(factor, x))
	}
}

func exchange(elements []api.Wide, a, b line) {
	for k := range a.count {
		i, j := a.element(k), b.element(k)
		elements[i], elements[j] = elements[j], elements[i]
	}
}

func negate(elements []api.Wide, l line) {
	for k := range l.count {
		elements[l.element(k)] = wide.Neg(elements[l.element(k)])
	}
}
