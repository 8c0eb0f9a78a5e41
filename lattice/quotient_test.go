package lattice_test

import (
	"testing"

	"cocycle/api"
	"cocycle/lattice"
	"cocycle/matrix"
	"cocycle/smith"
	"cocycle/wide"
)

// quotient is what Quotient returns, but whether it is true.
type quotient struct {
	torsion []api.Wide
	free    int
	gens    api.Mat
}

func quotientOf(z, b api.Mat) (q quotient, ok bool) {
	q.torsion, q.free, q.gens, ok = lattice.Quotient(z, b)
	return q, ok
}

// expectQuotient fails the test if Quotient of z and b is not what the chapter says. Of the functions of the package it uses those whose answers are proved in other tests.
func expectQuotient(t *testing.T, name string, z, b api.Mat) quotient {
	t.Helper()
	oldZ, oldB := copyOf(z), copyOf(b)
	q, ok := quotientOf(z, b)
	if !same(z, oldZ) || !same(b, oldB) {
		t.Fatalf("%s: Quotient changes its arguments", name)
	}
	name += ": Quotient of " + show(z) + ", " + show(b) + ": torsion " + showList(q.torsion) + ", gens " + show(q.gens)
	if !ok || q.free < 0 || !matrix.Right(q.gens) || q.gens.Rows != z.Rows || q.gens.Cols != len(q.torsion)+q.free {
		t.Fatalf("%s, free %d, %v", name, q.free, ok)
	}
	last := wide.From(1)
	for _, n := range q.torsion {
		if !isCanonical(q.torsion) || wide.Cmp(n, wide.From(2)) < 0 || !isMultiple(value(n), value(last)) {
			t.Fatalf("%s: wrong torsion", name)
		}
		last = n
	}
	expectGenerators(t, name, z, b, q)
	return q
}

func expectGenerators(t *testing.T, name string, z, b api.Mat, q quotient) {
	t.Helper()
	for j := range q.gens.Cols {
		generator := columnOf(q.gens, j)
		expectSolved(t, name+": a generator and the lattice of z", z, generator, true)
		if j < len(q.torsion) {
			multiple := multiplied(t, columnMatrix(generator), columnMatrix(q.torsion[j:j+1]))
			expectSolved(t, name+": its multiple and the lattice of b", b, multiple.E, true)
		}
	}
	both := joined(t, q.gens, b)
	for j := range z.Cols {
		expectSolved(t, name+": a column of z and the generators", both, columnOf(z, j), true)
	}
	relations := expectKernel(t, name, both)
	for place, n := range relations.E[:q.gens.Cols*relations.Cols] { // the coefficients of the generators in combinations that belong to the lattice of b
		var order api.Wide
		if i := place / relations.Cols; i < len(q.torsion) {
			order = q.torsion[i]
		}
		if !isMultiple(value(n), value(order)) {
			t.Fatalf("%s: a combination with the wrong coefficient %s belongs to the lattice of b", name, wide.Text(n))
		}
	}
}

// expectStructure fails the test if the quotient has another torsion, or another rank.
func expectStructure(t *testing.T, name string, z, b api.Mat, torsion []api.Wide, free int) {
	t.Helper()
	if q := expectQuotient(t, name, z, b); !sameList(q.torsion, torsion) || q.free != free {
		t.Fatalf("%s: Quotient of %s, %s: torsion %s, want %s, free %d, want %d", name, show(z), show(b), showList(q.torsion), showList(torsion), q.free, free)
	}
}

// expectNoQuotient fails the test if Quotient does not return false and zero values.
func expectNoQuotient(t *testing.T, name string, z, b api.Mat) {
	t.Helper()
	oldZ, oldB := copyOf(z), copyOf(b)
	if q, ok := quotientOf(z, b); ok || len(q.torsion) > 0 || q.free != 0 || !same(q.gens, api.Mat{}) {
		t.Fatalf("%s: Quotient of %s, %s: torsion %s, free %d, gens %s, %v", name, show(z), show(b), showList(q.torsion), q.free, show(q.gens), ok)
	}
	if !same(z, oldZ) || !same(b, oldB) {
		t.Fatalf("%s: Quotient changes its arguments", name)
	}
}

// structureOf returns the torsion and the rank that belong to coefficients of b in terms of z, by P4.5.
func structureOf(coefficients api.Mat) (torsion []api.Wide, free int) {
	factors := smith.Factors(coefficients)
	for _, n := range factors {
		if n != wide.From(1) {
			torsion = append(torsion, n)
		}
	}
	return torsion, coefficients.Rows - len(factors)
}

// P4.4

func TestQuotientExamples(t *testing.T) {
	for _, x := range []struct {
		z, b    [][]int
		torsion []int
		free    int
	}{
		{[][]int{{1, 0}, {0, 1}}, [][]int{{2, 0}, {0, 3}}, []int{6}, 0},
		{[][]int{{1, 0}, {0, 1}}, [][]int{{2}, {4}}, []int{2}, 1},
		{[][]int{{1, 0}, {0, 1}}, [][]int{{2, 4}, {2, 8}}, []int{2, 4}, 0},
		{[][]int{{1, 0}, {0, 1}}, [][]int{{2, 0}, {0, 2}}, []int{2, 2}, 0},
		{[][]int{{1, 0}, {0, 1}}, [][]int{{1, 0}, {0, 1}}, nil, 0},
		{[][]int{{1, 0}, {0, 1}}, [][]int{{1, 2}, {1, 2}}, nil, 1},
		{[][]int{{1, 0}, {0, 1}}, [][]int{{0}, {0}}, nil, 2},
		{[][]int{{1, 0}, {0, 1}}, [][]int{{0, 6}, {0, 4}}, []int{2}, 1},
		{[][]int{{1, 0}, {0, 1}}, [][]int{{-5, 0}, {0, 1}}, []int{5}, 0},
		{[][]int{{2, 0}, {0, 1}}, [][]int{{4}, {0}}, []int{2}, 1},
		{[][]int{{2, 0}, {0, 3}}, [][]int{{2, 0}, {0, 3}}, nil, 0},
		{[][]int{{2, 0}, {0, 3}}, [][]int{{2}, {3}}, nil, 1},
		{[][]int{{2, 0}, {0, 3}}, [][]int{{4, 0}, {0, 9}}, []int{6}, 0},
		{[][]int{{1}, {1}}, [][]int{{1}, {1}}, nil, 0},
		{[][]int{{1}, {1}}, [][]int{{-7}, {-7}}, []int{7}, 0},
		{[][]int{{3}, {6}}, [][]int{{6, 9}, {12, 18}}, nil, 0},
		{[][]int{{3}, {6}}, [][]int{{12, 18}, {24, 36}}, []int{2}, 0},
		{[][]int{{1, 0}, {-1, 1}, {0, -1}}, [][]int{{1, 1}, {1, -2}, {-2, 1}}, []int{3}, 0},
		{[][]int{{5}}, [][]int{{0}}, nil, 1},
		{[][]int{{5}}, [][]int{{10}}, []int{2}, 0},
		{[][]int{{-5}}, [][]int{{5}}, nil, 0},
	} {
		expectStructure(t, "example", matrix.Of(x.z), matrix.Of(x.b), numbers(x.torsion...), x.free)
	}
}

// TestQuotientOfTheProjectivePlane has the boundaries of chapter 8.
func TestQuotientOfTheProjectivePlane(t *testing.T) {
	edges := matrix.Of([][]int{{-1, -1, 0, 0, -1, -1}, {1, 1, -1, -1, 0, 0}, {0, 0, 1, 1, 1, 1}})
	faces := matrix.Of([][]int{{1, 1, 0, 0}, {0, 0, 1, 1}, {1, 0, 1, 0}, {0, 1, 0, 1}, {-1, 0, 0, -1}, {0, -1, -1, 0}})
	expectStructure(t, "vertices", matrix.One(3), edges, nil, 1)
	expectStructure(t, "circles", lattice.Kernel(edges), faces, numbers(2), 0)
	expectStructure(t, "spheres", lattice.Kernel(faces), matrix.Zero(4, 0), nil, 0)
}

func TestQuotientThatIsFalse(t *testing.T) {
	for _, x := range []struct {
		name string
		z, b [][]int
	}{
		{"half a column", [][]int{{2, 0}, {0, 1}}, [][]int{{3}, {0}}},
		{"a third of a column", [][]int{{3}}, [][]int{{7}}},
		{"a column that does not belong to the lattice, the last one", [][]int{{2, 0}, {0, 1}}, [][]int{{2, 4, 1}, {0, 5, 1}}},
		{"a column that does not belong to the lattice, the first one", [][]int{{2, 0}, {0, 1}}, [][]int{{1, 2, 4}, {1, 0, 5}}},
		{"a column beside the lattice", [][]int{{1}, {1}}, [][]int{{1}, {2}}},
		{"a column beside the lattice, the last one", [][]int{{1}, {1}}, [][]int{{1, 0, 1}, {1, 0, -1}}},
		{"dependent columns", [][]int{{1, 2}, {1, 2}}, [][]int{{1}, {1}}},
		{"dependent columns, and zeros", [][]int{{1, 2}, {1, 2}}, [][]int{{0}, {0}}},
		{"a column of zeros", [][]int{{1, 0}, {0, 0}}, [][]int{{1}, {0}}},
		{"zeros", [][]int{{0}}, [][]int{{0}}},
		{"the same column twice", [][]int{{1, 1}, {2, 2}, {3, 3}}, [][]int{{1}, {2}, {3}}},
		{"more columns than rows", [][]int{{1, 0, 1}, {0, 1, 1}}, [][]int{{1}, {1}}},
		{"more columns than rows", [][]int{{2, 3}}, [][]int{{1}}},
		{"too few rows", [][]int{{1, 0}, {0, 1}}, [][]int{{1}}},
		{"too many rows", [][]int{{1, 0}, {0, 1}}, [][]int{{1}, {1}, {0}}},
		{"rows and columns exchanged", [][]int{{1}, {1}}, [][]int{{1, 1}}},
	} {
		expectNoQuotient(t, x.name, matrix.Of(x.z), matrix.Of(x.b))
	}
}

func TestQuotientWithoutRowsOrColumns(t *testing.T) {
	for _, n := range []int{1, 3, 12} {
		expectStructure(t, "nothing, and columns", api.Mat{}, api.Mat{Cols: n}, nil, 0)
		expectStructure(t, "rows alone", api.Mat{Rows: n}, api.Mat{Rows: n}, nil, 0)
		expectStructure(t, "rows alone, and zeros", api.Mat{Rows: n}, matrix.Zero(n, 5), nil, 0)
		expectStructure(t, "unit matrix, and no columns", matrix.One(n), api.Mat{Rows: n}, nil, n)
		expectStructure(t, "unit matrix, and zeros", matrix.One(n), matrix.Zero(n, 1), nil, n)
		expectNoQuotient(t, "columns without rows", api.Mat{Cols: n}, api.Mat{})
		expectNoQuotient(t, "columns without rows, twice", api.Mat{Cols: n}, api.Mat{Cols: n})
		expectNoQuotient(t, "rows alone, and a column", api.Mat{Rows: n}, columnMatrix(append(make([]api.Wide, n-1), wide.From(1))))
		expectNoQuotient(t, "nothing, and rows", api.Mat{}, api.Mat{Rows: n})
		expectNoQuotient(t, "rows, and nothing", api.Mat{Rows: n}, api.Mat{})
		expectNoQuotient(t, "unit matrix, and nothing", matrix.One(n), api.Mat{})
	}
	expectStructure(t, "nothing", api.Mat{}, api.Mat{}, nil, 0)
	expectStructure(t, "nothing, with empty lists", api.Mat{E: []api.Wide{}}, api.Mat{E: []api.Wide{}}, nil, 0)
}

// TestQuotientWithTheMostRowsAndColumns has 200 of them.
func TestQuotientWithTheMostRowsAndColumns(t *testing.T) {
	twice := matrix.One(200)
	for i := range 200 {
		twice.E[i*201] = wide.From(-2)
	}
	for name, b := range map[string]api.Mat{"unit matrix": matrix.One(200), "zeros": matrix.Zero(200, 200), "no columns": {Rows: 200}, "twice the unit matrix": twice} {
		torsion, free := structureOf(b)
		q, ok := quotientOf(matrix.One(200), b)
		if !ok || !sameList(q.torsion, torsion) || q.free != free || q.gens.Rows != 200 || q.gens.Cols != len(torsion)+free {
			t.Errorf("Quotient by %s: torsion %s, free %d, gens %s, %v", name, showList(q.torsion), q.free, show(q.gens), ok)
		}
	}
	expectNoQuotient(t, "unit matrix, and too few rows", matrix.One(200), matrix.One(199))
	expectNoQuotient(t, "twice the unit matrix", twice, matrix.One(200))
	g := generator(31)
	expectQuotient(t, "200 columns", matrix.One(3), g.matrix(3, 197, 9, 4))
}

func TestQuotientOfUnitMatrices(t *testing.T) {
	g := generator(32)
	for _, s := range shapes() {
		for _, most := range []int{1, 6, 60, 1 << 40} {
			for _, zeros := range []int{2, 5, 1000} {
				b := g.matrix(s.rows, s.cols, most, zeros)
				torsion, free := structureOf(b)
				expectStructure(t, "unit matrix", matrix.One(s.rows), b, torsion, free)
				for i, n := range b.E {
					b.E[i] = wide.Mul(n, wide.From(1+i%2*5))
				}
				torsion, free = structureOf(b)
				expectStructure(t, "unit matrix, and multiples", matrix.One(s.rows), b, torsion, free)
			}
		}
	}
}

// TestQuotientOfProducts has b = z c, where c are the coefficients.
func TestQuotientOfProducts(t *testing.T) {
	g := generator(33)
	for _, s := range shapes() {
		for _, more := range []int{0, 1, 3} {
			for _, most := range []int{1, 7, 1 << 30} {
				z := g.matrix(s.rows+more, s.rows, most, 6)
				c := g.matrix(s.rows, s.cols, 12, 3)
				if rankOf(z) < z.Cols {
					expectNoQuotient(t, "dependent columns", z, multiplied(t, z, c))
					continue
				}
				torsion, free := structureOf(c)
				expectStructure(t, "product", z, multiplied(t, z, c), torsion, free)
			}
		}
	}
}

// TestQuotientThatIsKnown has a normal matrix of coefficients, multiplied with others whose determinants are 1 or -1.
func TestQuotientThatIsKnown(t *testing.T) {
	g := generator(34)
	for _, list := range [][]int{{}, {1}, {2}, {1, 1}, {1, 3}, {2, 2}, {2, 6}, {1, 1, 4}, {1, 2, 2}, {3, 6, 12}, {1, 1 << 40}, {1, 1, 1, 5}} {
		var torsion []api.Wide
		for _, n := range list {
			if n > 1 {
				torsion = append(torsion, wide.From(n))
			}
		}
		for rows := len(list); rows < len(list)+3; rows++ {
			for cols := len(list); cols < len(list)+2; cols++ {
				z := joinedBelow(g.unimodular(t, rows, 3), g.matrix(2, rows, 9, 3))
				b := multiplied(t, z, g.unimodular(t, rows, 2), diagonal(rows, cols, list...), g.unimodular(t, cols, 2))
				expectStructure(t, "known quotient", z, b, torsion, rows-len(list))
				for i := range z.E { // multiples of all vectors
					z.E[i] = wide.Mul(z.E[i], wide.From(-6))
				}
				for i := range b.E {
					b.E[i] = wide.Mul(b.E[i], wide.From(-6))
				}
				expectStructure(t, "known quotient of multiples", z, b, torsion, rows-len(list))
			}
		}
	}
}

// joinedBelow returns the rows of a, and then those of b.
func joinedBelow(a, b api.Mat) api.Mat {
	return api.Mat{Rows: a.Rows + b.Rows, Cols: a.Cols, E: append(copyOfList(a.E), b.E...)}
}

// TestQuotientByOneNumberMore changes a column of b such that it does not belong to the lattice of z.
func TestQuotientByOneNumberMore(t *testing.T) {
	g := generator(35)
	for _, s := range []shape{{1, 1}, {2, 3}, {3, 2}, {4, 4}} {
		for _, factor := range []int{2, 3, 30} {
			p := g.unimodular(t, s.rows, 2)
			z := copyOf(p)
			for i := range s.rows { // the last column is a multiple
				z.E[(i+1)*s.rows-1] = wide.Mul(z.E[(i+1)*s.rows-1], wide.From(factor))
			}
			b := multiplied(t, z, g.matrix(s.rows, s.cols, 5, 3))
			expectQuotient(t, "product", z, b)
			for j := range s.cols {
				changed := copyOf(b)
				for i := range s.rows {
					changed.E[i*s.cols+j] = wide.Add(b.E[i*s.cols+j], p.E[(i+1)*s.rows-1])
				}
				expectNoQuotient(t, "product and a vector more", z, changed)
			}
		}
	}
}

func TestQuotientOfLongNumbers(t *testing.T) {
	g := generator(36)
	for _, s := range shapes() {
		z := g.long(s.rows+1, s.rows, 4)
		c := g.long(s.rows, s.cols, 5)
		torsion, free := structureOf(c)
		expectStructure(t, "long numbers", z, multiplied(t, z, c), torsion, free)
	}
}

// TestQuotientOfManyColumns has a complex with the edges and triangles of a torus with 7 vertices, and of several ones beside each other.
func TestQuotientOfManyColumns(t *testing.T) {
	for _, count := range []int{1, 3} {
		edges, triangles := boundariesOfTori(count)
		expectStructure(t, "vertices", matrix.One(7*count), edges, nil, count)
		expectStructure(t, "edges", lattice.Kernel(edges), triangles, nil, 2*count)
		expectStructure(t, "triangles", lattice.Kernel(triangles), matrix.Zero(14*count, 0), nil, count)
	}
	g := generator(37)
	z := g.matrix(40, 25, 2, 3)
	c := g.matrix(25, 30, 3, 3)
	torsion, free := structureOf(c)
	expectStructure(t, "many numbers", z, multiplied(t, z, c), torsion, free)
}

// boundariesOfTori returns the boundary matrices of tori with 7 vertices, whose triangles are i, i+1, i+3 and i, i+2, i+3 modulo 7.
func boundariesOfTori(count int) (edges, triangles api.Mat) {
	edges, triangles = matrix.Zero(7*count, 21*count), matrix.Zero(21*count, 14*count)
	add := func(a *api.Mat, row, col, n int) {
		place := row*a.Cols + col
		a.E[place] = wide.Add(a.E[place], wide.From(n))
	}
	for torus := range count {
		for i := range 7 {
			edge := func(start, step int) int { // from a vertex to the one that is 1, 2 or 3 farther
				return torus*21 + (step-1)*7 + (i+start)%7
			}
			for step := 1; step <= 3; step++ {
				add(&edges, torus*7+i, edge(0, step), -1)
				add(&edges, torus*7+(i+step)%7, edge(0, step), 1)
			}
			for first := 1; first <= 2; first++ {
				column := torus*14 + (first-1)*7 + i
				add(&triangles, edge(0, first), column, 1)
				add(&triangles, edge(first, 3-first), column, 1)
				add(&triangles, edge(0, 3), column, -1)
			}
		}
	}
	return edges, triangles
}

func TestQuotientOfMatricesThatAreNotRight(t *testing.T) {
	for name, a := range wrongMatrices() {
		for _, other := range []api.Mat{{}, {Rows: a.Rows}, matrix.One(1), matrix.One(2), matrix.Zero(2, 3), matrix.Zero(3, 1), a} {
			expectNoQuotient(t, name, a, other)
			expectNoQuotient(t, name, other, a)
		}
	}
	values := api.Mat{Rows: 2, Cols: 2, E: disguised(numbers(1, 0, 0, 2))} // right, if elements counted by their value
	expectNoQuotient(t, "values", values, matrix.Zero(2, 1))
	expectNoQuotient(t, "values", matrix.One(2), values)
}

// P4.5, for Quotient

// TestQuotientDependsOnLattices has other columns with the same lattices.
func TestQuotientDependsOnLattices(t *testing.T) {
	g := generator(38)
	for _, s := range shapes() {
		z := joinedBelow(g.unimodular(t, s.rows, 2), g.matrix(1, s.rows, 5, 2))
		b := multiplied(t, z, g.matrix(s.rows, s.cols, 8, 3))
		q := expectQuotient(t, "quotient", z, b)
		otherZ := multiplied(t, z, g.unimodular(t, s.rows, 3))
		otherB := multiplied(t, b, g.unimodular(t, s.cols, 3))
		more := multiplied(t, otherB, g.matrix(s.cols, 2, 3, 3))
		expectStructure(t, "another z", otherZ, b, q.torsion, q.free)
		expectStructure(t, "another b", z, otherB, q.torsion, q.free)
		expectStructure(t, "more columns of b", otherZ, joined(t, more, otherB), q.torsion, q.free)
	}
}

// R3 and R4: results have memory of their own, and are the same for the same arguments.

func TestQuotientSharesNoMemory(t *testing.T) {
	for _, rows := range [][][]int{{{1, 0}, {0, 1}}, {{2, 0}, {0, 6}}, {{0}, {0}}, {{2}, {4}}, {{2, 4}, {2, 8}}} {
		z, b := matrix.One(2), matrix.Of(rows)
		oldB := copyOf(b)
		q, _ := quotientOf(z, b)
		torsion, gens := copyOfList(q.torsion), copyOf(q.gens)
		overwrite(q.torsion)
		if !same(q.gens, gens) {
			t.Errorf("torsion and gens of Quotient by %s share memory", show(b))
		}
		overwrite(q.gens.E)
		again, _ := quotientOf(matrix.One(2), copyOf(b))
		if !same(z, matrix.One(2)) || !same(b, oldB) || !sameList(again.torsion, torsion) || !same(again.gens, gens) {
			t.Errorf("results of Quotient by %s share memory, or are not the same again", show(oldB))
		}
	}
}
