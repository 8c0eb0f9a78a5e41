package smith_test

import (
	"testing"

	"cocycle/api"
	"cocycle/matrix"
	"cocycle/smith"
	"cocycle/wide"
)

// P3.1: these tests do not use Form.

// normals returns lists of numbers that are right as a diagonal.
func normals() [][]int {
	return [][]int{{}, {0}, {1}, {5}, {0, 0}, {1, 0}, {7, 0}, {1, 1}, {2, 2}, {1, 6}, {2, 4}, {3, 0, 0}, {1, 2, 0}, {2, 6, 12}, {1, 3, 3}, {5, 5, 5}, {1, 1, 2, 4}, {2, 2, 0, 0}, {1, 1 << 40, 1 << 62}}
}

func TestCheckOfFormsThatAreKnown(t *testing.T) {
	g := generator(1)
	for _, s := range shapes() {
		for _, list := range normals() {
			if len(list) > min(s.rows, s.cols) {
				continue
			}
			for _, most := range []int{0, 1, 3, 1 << 40} {
				a, form := g.known(t, diagonal(s.rows, s.cols, list...), most)
				expectCheck(t, "known form", a, form, true)
			}
		}
	}
}

func TestCheckOfAnExample(t *testing.T) {
	a := matrix.Of([][]int{{2, 4}, {6, 8}})
	s := api.Smith{
		U:  matrix.Of([][]int{{1, 0}, {3, -1}}),
		UI: matrix.Of([][]int{{1, 0}, {3, -1}}),
		D:  matrix.Of([][]int{{2, 0}, {0, 4}}),
		V:  matrix.Of([][]int{{1, -2}, {0, 1}}),
		VI: matrix.Of([][]int{{1, 2}, {0, 1}}),
	}
	expectCheck(t, "example", a, s, true)
	expectCheck(t, "another matrix", matrix.Of([][]int{{2, 4}, {6, 9}}), s, false)
	expectCheck(t, "the transpose", matrix.Transpose(a), s, false)
	expectCheck(t, "the negative matrix", matrix.Of([][]int{{-2, -4}, {-6, -8}}), s, false)
	s.U, s.V, s.UI, s.VI = s.V, s.U, s.VI, s.UI
	expectCheck(t, "U and V exchanged", a, s, false)
}

func TestCheckWithoutRowsOrColumns(t *testing.T) {
	expectCheck(t, "nothing", api.Mat{}, api.Smith{}, true)
	expectCheck(t, "nothing, with empty lists", api.Mat{E: []api.Wide{}}, api.Smith{D: api.Mat{E: []api.Wide{}}}, true)
	for _, n := range []int{1, 2, 200} {
		one := matrix.One(n)
		expectCheck(t, "rows alone", api.Mat{Rows: n}, api.Smith{U: one, UI: one, D: api.Mat{Rows: n}}, true)
		expectCheck(t, "columns alone", api.Mat{Cols: n}, api.Smith{V: one, VI: one, D: api.Mat{Cols: n}}, true)
		expectCheck(t, "rows alone, the zero Smith", api.Mat{Rows: n}, api.Smith{}, false)
		expectCheck(t, "columns alone, the zero Smith", api.Mat{Cols: n}, api.Smith{}, false)
		expectCheck(t, "rows without U", api.Mat{Rows: n}, api.Smith{D: api.Mat{Rows: n}}, false)
		expectCheck(t, "columns without V", api.Mat{Cols: n}, api.Smith{D: api.Mat{Cols: n}}, false)
		expectCheck(t, "rows with V", api.Mat{Rows: n}, api.Smith{U: one, UI: one, D: api.Mat{Rows: n}, V: one, VI: one}, false)
		expectCheck(t, "columns with U", api.Mat{Cols: n}, api.Smith{U: one, UI: one, D: api.Mat{Cols: n}, V: one, VI: one}, false)
		expectCheck(t, "nothing with U", api.Mat{}, api.Smith{U: one, UI: one}, false)
	}
	expectCheck(t, "the zero Smith", matrix.Zero(2, 2), api.Smith{}, false)
}

// TestCheckOfD has transforms that lead to D, so that all depends on whether D is normal.
func TestCheckOfD(t *testing.T) {
	g := generator(2)
	for _, x := range []struct {
		rows [][]int
		want bool
	}{
		{[][]int{{0}}, true},
		{[][]int{{1}}, true},
		{[][]int{{9}}, true},
		{[][]int{{-1}}, false},
		{[][]int{{-9}}, false},
		{[][]int{{2, 0}, {0, 4}}, true},
		{[][]int{{4, 0}, {0, 2}}, false},
		{[][]int{{2, 0}, {0, 3}}, false},
		{[][]int{{4, 0}, {0, 6}}, false},
		{[][]int{{2, 0}, {0, -4}}, false},
		{[][]int{{-2, 0}, {0, 4}}, false},
		{[][]int{{-2, 0}, {0, -4}}, false},
		{[][]int{{0, 0}, {0, 0}}, true},
		{[][]int{{3, 0}, {0, 0}}, true},
		{[][]int{{0, 0}, {0, 3}}, false},
		{[][]int{{0, 0}, {0, 1}}, false},
		{[][]int{{0, 0}, {0, -1}}, false},
		{[][]int{{1, 1}, {0, 1}}, false},
		{[][]int{{1, 0}, {1, 1}}, false},
		{[][]int{{0, 1}, {1, 0}}, false},
		{[][]int{{0, 1}, {0, 0}}, false},
		{[][]int{{0, 0}, {-1, 0}}, false},
		{[][]int{{1, 0, 0}, {0, 2, 0}, {0, 0, 6}}, true},
		{[][]int{{1, 0, 0}, {0, 2, 0}, {0, 0, 3}}, false},
		{[][]int{{1, 0, 0}, {0, 0, 0}, {0, 0, 3}}, false},
		{[][]int{{2, 0, 0}, {0, 1, 0}, {0, 0, 2}}, false},
		{[][]int{{2, 0, 0}, {0, 2, 1}, {0, 0, 2}}, false},
		{[][]int{{1, 0, 0}, {0, 2, 0}}, true},
		{[][]int{{1, 0, 2}, {0, 2, 0}}, false},
		{[][]int{{1, 0, 0}, {0, 2, 2}}, false},
		{[][]int{{1, 0}, {0, 2}, {0, 0}}, true},
		{[][]int{{1, 0}, {0, 2}, {0, 4}}, false},
		{[][]int{{1, 0}, {0, 2}, {-1, 0}}, false},
		{[][]int{{0, 0, 5}}, false},
		{[][]int{{0}, {0}, {5}}, false},
		{[][]int{{5, 0, 0}}, true},
		{[][]int{{5}, {0}, {0}}, true},
	} {
		d := matrix.Of(x.rows)
		one := api.Smith{U: matrix.One(d.Rows), UI: matrix.One(d.Rows), D: d, V: matrix.One(d.Cols), VI: matrix.One(d.Cols)}
		expectCheck(t, "unit transforms", d, one, x.want)
		a, s := g.known(t, d, 4)
		expectCheck(t, "transforms", a, s, x.want)
	}
}

func TestCheckOfDWithLongNumbers(t *testing.T) {
	n := wide.Mul(wide.From(1<<62), wide.From(1<<62))
	for _, x := range []struct {
		first, second api.Wide
		want          bool
	}{
		{n, n, true},
		{n, wide.Mul(n, wide.From(3)), true},
		{n, api.Wide{}, true},
		{n, wide.Neg(n), false},
		{n, wide.Add(n, wide.From(1)), false},
		{wide.Mul(n, wide.From(3)), n, false},
		{wide.Add(n, wide.From(1)), wide.Mul(n, wide.Add(n, wide.From(1))), true},
	} {
		a := api.Mat{Rows: 2, Cols: 2, E: []api.Wide{x.first, {}, {}, x.second}}
		one := matrix.One(2)
		expectCheck(t, "long numbers", a, api.Smith{U: one, UI: one, D: a, V: one, VI: one}, x.want)
	}
}

// TestCheckOfEachElement changes each element of a, and of each matrix of a form.
func TestCheckOfEachElement(t *testing.T) {
	g := generator(3)
	for _, s := range shapes() {
		a, form := g.known(t, diagonal(s.rows, s.cols, []int{1, 3, 6, 0}[:min(s.rows, s.cols)]...), 3)
		list := matrices(&form)
		list["a"] = &a
		for name, m := range list {
			for i, x := range m.E {
				for _, other := range []api.Wide{wide.Add(x, wide.From(1)), wide.Sub(x, wide.From(1)), wide.Add(x, wide.From(6)), wide.Mul(x, wide.From(2)), wide.Neg(x), {Mag: "\x00" + x.Mag}, {Neg: true, Mag: "\x00" + x.Mag}} {
					if other == x { // a change of 0
						continue
					}
					m.E[i] = other
					expectCheck(t, "changed element of "+name, a, form, false)
				}
				m.E[i] = x
			}
		}
		expectCheck(t, "nothing changed", a, form, true)
	}
}

// TestCheckOfTransforms has a = 0, so that all depends on whether the transforms are inverse to each other.
func TestCheckOfTransforms(t *testing.T) {
	one, a := matrix.One(2), matrix.Zero(2, 2)
	for _, x := range []struct {
		name            string
		matrix, inverse [][]int
		want            bool
	}{
		{"unit matrices", [][]int{{1, 0}, {0, 1}}, [][]int{{1, 0}, {0, 1}}, true},
		{"an inverse matrix", [][]int{{2, 1}, {1, 1}}, [][]int{{1, -1}, {-1, 2}}, true},
		{"an exchange", [][]int{{0, 1}, {1, 0}}, [][]int{{0, 1}, {1, 0}}, true},
		{"a turn", [][]int{{0, 1}, {-1, 0}}, [][]int{{0, -1}, {1, 0}}, true},
		{"a turn twice", [][]int{{0, 1}, {-1, 0}}, [][]int{{0, 1}, {-1, 0}}, false},
		{"another sign", [][]int{{1, 0}, {0, 1}}, [][]int{{-1, 0}, {0, -1}}, false},
		{"the matrix itself", [][]int{{2, 1}, {1, 1}}, [][]int{{2, 1}, {1, 1}}, false},
		{"the adjoint of a matrix with determinant 2", [][]int{{2, 0}, {0, 1}}, [][]int{{1, 0}, {0, 2}}, false},
		{"twice the unit matrix", [][]int{{2, 0}, {0, 2}}, [][]int{{1, 0}, {0, 1}}, false},
		{"only one column of the inverse", [][]int{{2, 1}, {1, 1}}, [][]int{{1, 0}, {-1, 0}}, false},
		{"a singular matrix", [][]int{{1, 0}, {0, 0}}, [][]int{{1, 0}, {0, 0}}, false},
		{"zeros", [][]int{{0, 0}, {0, 0}}, [][]int{{0, 0}, {0, 0}}, false},
	} {
		m, inverse := matrix.Of(x.matrix), matrix.Of(x.inverse)
		expectCheck(t, x.name+" as U", a, api.Smith{U: m, UI: inverse, D: a, V: one, VI: one}, x.want)
		expectCheck(t, x.name+" as V", a, api.Smith{U: one, UI: one, D: a, V: m, VI: inverse}, x.want)
		expectCheck(t, x.name+" as both", a, api.Smith{U: m, UI: inverse, D: a, V: m, VI: inverse}, x.want)
	}
}

// TestCheckOfAnotherD has inverse transforms and a normal D, but these do not belong to a.
func TestCheckOfAnotherD(t *testing.T) {
	g := generator(4)
	a, s := g.known(t, diagonal(3, 3, 1, 2, 4), 3)
	for _, list := range normals() {
		if len(list) == 3 {
			s.D = diagonal(3, 3, list...)
			expectCheck(t, "another D", a, s, false)
		}
	}
	s.D = diagonal(3, 3, 1, 2, 4)
	expectCheck(t, "the right D", a, s, true)
	one := matrix.One(3)
	expectCheck(t, "unit transforms", a, api.Smith{U: one, UI: one, D: s.D, V: one, VI: one}, false)
	expectCheck(t, "transforms that are inverses", a, api.Smith{U: s.UI, UI: s.U, D: s.D, V: s.VI, VI: s.V}, false)
}

// TestCheckOfShapes has products that are as they should be, of matrices that have other numbers of rows and columns.
func TestCheckOfShapes(t *testing.T) {
	one, row, column := matrix.One, matrix.Of([][]int{{1, 0}}), matrix.Of([][]int{{1}, {0}})
	a := matrix.Zero(2, 3)
	for name, s := range map[string]api.Smith{
		"fewer rows of U":          {U: row, UI: column, D: matrix.Zero(1, 3), V: one(3), VI: one(3)},
		"fewer rows of U, not D":   {U: row, UI: column, D: a, V: one(3), VI: one(3)},
		"fewer columns of V":       {U: one(2), UI: one(2), D: matrix.Zero(2, 2), V: one(3), VI: one(2)},
		"other columns of V":       {U: one(2), UI: one(2), D: matrix.Zero(2, 4), V: joined(t, one(3), 1), VI: matrix.Transpose(joined(t, one(3), 1))},
		"other columns of V not D": {U: one(2), UI: one(2), D: a, V: joined(t, one(3), 1), VI: matrix.Transpose(joined(t, one(3), 1))},
		"U and V exchanged":        {U: one(3), UI: one(3), D: a, V: one(2), VI: one(2)},
		"D transposed":             {U: one(2), UI: one(2), D: matrix.Zero(3, 2), V: one(3), VI: one(3)},
		"a transposed":             {U: one(3), UI: one(3), D: matrix.Zero(3, 2), V: one(2), VI: one(2)},
		"more rows of D":           {U: one(2), UI: one(2), D: matrix.Zero(3, 3), V: one(3), VI: one(3)},
		"fewer columns of D":       {U: one(2), UI: one(2), D: matrix.Zero(2, 2), V: one(3), VI: one(3)},
		"larger UI":                {U: one(2), UI: one(3), D: a, V: one(3), VI: one(3)},
		"larger U":                 {U: one(3), UI: one(2), D: a, V: one(3), VI: one(3)},
		"larger U and UI":          {U: one(3), UI: one(3), D: a, V: one(3), VI: one(3)},
		"smaller VI":               {U: one(2), UI: one(2), D: a, V: one(3), VI: one(2)},
		"smaller V":                {U: one(2), UI: one(2), D: a, V: one(2), VI: one(3)},
		"smaller V and VI":         {U: one(2), UI: one(2), D: a, V: one(2), VI: one(2)},
		"no U and UI":              {D: a, V: one(3), VI: one(3)},
		"no V and VI":              {U: one(2), UI: one(2), D: a},
		"no D":                     {U: one(2), UI: one(2), V: one(3), VI: one(3)},
	} {
		expectCheck(t, name, a, s, false)
	}
	s := api.Smith{U: one(2), UI: one(2), D: a, V: one(3), VI: one(3)}
	expectCheck(t, "right shapes", a, s, true)
	for _, x := range shapes() {
		if x.rows != 2 || x.cols != 3 {
			expectCheck(t, "another a", matrix.Zero(x.rows, x.cols), s, false)
		}
	}
	expectCheck(t, "another a", matrix.Zero(200, 200), s, false)
}

// joined returns a matrix with so many more columns of zeros.
func joined(t *testing.T, a api.Mat, cols int) api.Mat {
	t.Helper()
	result, ok := matrix.Join(a, matrix.Zero(a.Rows, cols))
	if !ok {
		t.Fatal("Join: false")
	}
	return result
}

func TestCheckOfMatricesThatAreNotRight(t *testing.T) {
	g := generator(5)
	a, s := g.known(t, diagonal(2, 2, 1, 2), 3)
	for name, wrong := range wrongMatrices() {
		expectCheck(t, name, wrong, s, false)
		expectCheck(t, name, wrong, api.Smith{}, false)
		expectCheck(t, name, wrong, api.Smith{U: wrong, UI: wrong, D: wrong, V: wrong, VI: wrong}, false)
		expectCheck(t, name, a, api.Smith{U: wrong, UI: wrong, D: wrong, V: wrong, VI: wrong}, false)
		for of, m := range matrices(&s) {
			old := *m
			*m = wrong
			expectCheck(t, name+" in "+of, a, s, false)
			expectCheck(t, name+" in "+of, wrong, s, false)
			expectCheck(t, name+" in "+of, api.Mat{}, s, false)
			*m = old
		}
	}
	expectCheck(t, "nothing wrong", a, s, true)
}

// TestCheckOfNumbersThatAreNotCanonical has values that are right, in forms that are not.
func TestCheckOfNumbersThatAreNotCanonical(t *testing.T) {
	for _, x := range []struct{ a, d api.Wide }{
		{api.Wide{}, api.Wide{Neg: true}},
		{api.Wide{}, api.Wide{Mag: "\x00"}},
		{wide.From(5), api.Wide{Mag: "\x00\x05"}},
		{api.Wide{Neg: true}, api.Wide{}},
		{api.Wide{Mag: "\x00"}, api.Wide{}},
		{api.Wide{Mag: "\x00\x05"}, wide.From(5)},
		{api.Wide{Neg: true}, api.Wide{Neg: true}},
		{api.Wide{Mag: "\x00\x05"}, api.Wide{Mag: "\x00\x05"}},
	} {
		one := matrix.One(1)
		a, d := api.Mat{Rows: 1, Cols: 1, E: []api.Wide{x.a}}, api.Mat{Rows: 1, Cols: 1, E: []api.Wide{x.d}}
		expectCheck(t, "numbers that are not canonical", a, api.Smith{U: one, UI: one, D: d, V: one, VI: one}, false)
	}
	wrong := api.Mat{Rows: 1, Cols: 1, E: []api.Wide{{Mag: "\x00\x01"}}}
	zero := matrix.Zero(1, 1)
	for name := range matrices(&api.Smith{}) {
		if name == "D" {
			continue
		}
		s := api.Smith{U: matrix.One(1), UI: matrix.One(1), D: zero, V: matrix.One(1), VI: matrix.One(1)}
		expectCheck(t, "unit transforms", zero, s, true)
		*matrices(&s)[name] = wrong
		expectCheck(t, "a wrong form of 1 in "+name, zero, s, false)
	}
}

func TestCheckOfManyRowsAndColumns(t *testing.T) {
	one := matrix.One(200)
	s := api.Smith{U: one, UI: one, D: one, V: one, VI: one}
	expectCheck(t, "unit matrices", one, s, true)
	s.D = copyOf(one)
	s.D.E[len(s.D.E)-1] = wide.From(2)
	expectCheck(t, "another last element", one, s, false)
	expectCheck(t, "another last element", s.D, s, true)
	s.UI = s.D
	expectCheck(t, "another last element of UI", s.D, s, false)
	if smith.Check(api.Mat{Rows: 201}, s) {
		t.Error("201 rows check")
	}
}
