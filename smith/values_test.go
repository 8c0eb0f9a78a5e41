package smith_test

import (
	"math"
	"math/big"
	"strings"
	"testing"

	"cocycle/api"
	"cocycle/matrix"
	"cocycle/smith"
	"cocycle/wide"
)

// generator makes the same numbers in each run (xorshift).
type generator uint64

func (g *generator) next() uint64 {
	*g ^= *g << 13
	*g ^= *g >> 7
	*g ^= *g << 17
	return uint64(*g)
}

func (g *generator) below(n int) int {
	return int(g.next() >> 11 % uint64(n))
}

// between returns a number from -most to most.
func (g *generator) between(most int) int {
	return g.below(2*most+1) - most
}

// matrix returns a matrix of numbers from -most to most, of which about one in so many is 0.
func (g *generator) matrix(rows, cols, most, zeros int) api.Mat {
	a := matrix.Zero(rows, cols)
	for i := range a.E {
		if g.below(zeros) > 0 {
			a.E[i] = wide.From(g.between(most))
		}
	}
	return a
}

// long returns a matrix of numbers with so many digits to the base 2^50.
func (g *generator) long(rows, cols, digits int) api.Mat {
	a := matrix.Zero(rows, cols)
	for range digits {
		for i, x := range a.E {
			a.E[i] = wide.Add(wide.Mul(x, wide.From(1<<50)), wide.From(g.between(1<<50)))
		}
	}
	return a
}

// unimodular returns a matrix with n rows and columns whose determinant is 1 or -1, and its inverse.
func (g *generator) unimodular(t *testing.T, n, most int) (a, inverse api.Mat) {
	t.Helper()
	lower, upper := matrix.One(n), matrix.One(n)
	for i := range n {
		for j := range i {
			lower.E[i*n+j] = wide.From(g.between(most))
			upper.E[j*n+i] = wide.From(g.between(most))
		}
		if g.below(2) == 0 {
			lower.E[i*n+i] = wide.From(-1)
		}
	}
	a = multiplied(t, lower, upper)
	inverse, ok := matrix.Inverse(a)
	if !ok {
		t.Fatalf("Inverse of a product of triangular matrices: false")
	}
	return a, inverse
}

func multiplied(t *testing.T, list ...api.Mat) api.Mat {
	t.Helper()
	product := list[0]
	for _, a := range list[1:] {
		next, ok := matrix.Mul(product, a)
		if !ok {
			t.Fatalf("Mul of matrices with %d columns and %d rows: false", product.Cols, a.Rows)
		}
		product = next
	}
	return product
}

// diagonal returns a matrix with these numbers on its diagonal, and zeros elsewhere.
func diagonal(rows, cols int, list ...int) api.Mat {
	a := matrix.Zero(rows, cols)
	for k, n := range list {
		a.E[k*cols+k] = wide.From(n)
	}
	return a
}

// known returns a matrix, and a Smith for which Check is true if d is normal, without the use of Form.
func (g *generator) known(t *testing.T, d api.Mat, most int) (api.Mat, api.Smith) {
	t.Helper()
	s := api.Smith{D: d}
	s.U, s.UI = g.unimodular(t, d.Rows, most)
	s.V, s.VI = g.unimodular(t, d.Cols, most)
	return multiplied(t, s.UI, d, s.VI), s
}

// shape is a number of rows and a number of columns.
type shape struct{ rows, cols int }

func shapes() []shape {
	return []shape{{0, 0}, {1, 0}, {0, 1}, {3, 0}, {0, 3}, {1, 1}, {1, 2}, {2, 1}, {2, 2}, {2, 3}, {3, 2}, {1, 5}, {5, 1}, {3, 3}, {4, 3}, {3, 4}, {4, 4}}
}

// wrongNumbers returns numbers that are not canonical.
func wrongNumbers() []api.Wide {
	return []api.Wide{
		{Neg: true},
		{Mag: "\x00"},
		{Neg: true, Mag: "\x00"},
		{Mag: "\x00\x01"},
		{Neg: true, Mag: "\x00\x01"},
		{Mag: "\x00" + strings.Repeat("\xff", 20)},
	}
}

// wrongMatrices returns matrices that are not right, by what is wrong with them.
func wrongMatrices() map[string]api.Mat {
	ones := make([]api.Wide, 400)
	for i := range ones {
		ones[i] = wide.From(1)
	}
	list := map[string]api.Mat{
		"an element too few":               {Rows: 2, Cols: 2, E: ones[:3]},
		"an element too many":              {Rows: 2, Cols: 2, E: ones[:5]},
		"no elements":                      {Rows: 1, Cols: 1},
		"elements without rows":            {Cols: 2, E: ones[:2]},
		"elements without columns":         {Rows: 2, E: ones[:2]},
		"elements without either":          {E: ones[:1]},
		"negative rows":                    {Rows: -1, Cols: 2},
		"negative columns":                 {Rows: 2, Cols: -1},
		"negative rows, no columns":        {Rows: -1},
		"negative columns, no rows":        {Cols: -1},
		"both negative, right product":     {Rows: -1, Cols: -1, E: ones[:1]},
		"201 rows":                         {Rows: 201, Cols: 1, E: ones[:201]},
		"201 columns":                      {Rows: 1, Cols: 201, E: ones[:201]},
		"201 rows, no columns":             {Rows: 201},
		"201 columns, no rows":             {Cols: 201},
		"a product that wraps around to 0": {Rows: 1 << 32, Cols: 1 << 32},
		"a product that wraps around to 1": {Rows: math.MaxInt, Cols: math.MaxInt, E: ones[:1]},
		"the least int":                    {Rows: math.MinInt, Cols: math.MinInt},
		"only wrong numbers":               {Rows: 2, Cols: 3, E: wrongNumbers()},
		"a wrong number at the very end":   {Rows: 2, Cols: 2, E: []api.Wide{ones[0], {}, {}, {Mag: "\x00"}}},
	}
	for i, n := range wrongNumbers() {
		list["wrong number "+string(rune('0'+i))] = api.Mat{Rows: 1, Cols: 1, E: []api.Wide{n}}
	}
	return list
}

// matrices returns the matrices of a Smith, with their names, such that they can be changed.
func matrices(s *api.Smith) map[string]*api.Mat {
	return map[string]*api.Mat{"U": &s.U, "UI": &s.UI, "D": &s.D, "V": &s.V, "VI": &s.VI}
}

// copyOf returns a copy of a matrix that shares no memory with it.
func copyOf(a api.Mat) api.Mat {
	a.E = append([]api.Wide{}, a.E...)
	return a
}

func copyOfSmith(s api.Smith) api.Smith {
	for _, m := range matrices(&s) {
		*m = copyOf(*m)
	}
	return s
}

// same reports whether two matrices are the same, right or not.
func same(a, b api.Mat) bool {
	if a.Rows != b.Rows || a.Cols != b.Cols || len(a.E) != len(b.E) {
		return false
	}
	for i := range a.E {
		if a.E[i] != b.E[i] {
			return false
		}
	}
	return true
}

func sameSmith(s, z api.Smith) bool {
	return same(s.U, z.U) && same(s.UI, z.UI) && same(s.D, z.D) && same(s.V, z.V) && same(s.VI, z.VI)
}

func sameList(a, b []api.Wide) bool {
	return same(api.Mat{E: a}, api.Mat{E: b})
}

func numbers(list ...int) []api.Wide {
	var results []api.Wide
	for _, n := range list {
		results = append(results, wide.From(n))
	}
	return results
}

// show writes a matrix such that its elements can be read.
func show(a api.Mat) string {
	var b strings.Builder
	b.WriteString(wide.Text(wide.From(a.Rows)) + " x " + wide.Text(wide.From(a.Cols)) + ":")
	for i, x := range a.E {
		if i == 40 {
			b.WriteString(" ..")
			break
		}
		if a.Cols > 0 && i%a.Cols == 0 && i > 0 {
			b.WriteString(" /")
		}
		b.WriteString(" " + wide.Text(x))
	}
	return b.String()
}

func showList(list []api.Wide) string {
	return show(api.Mat{Rows: 1, Cols: len(list), E: list})
}

// value returns a canonical number as a big one.
func value(a api.Wide) *big.Int {
	n := new(big.Int).SetBytes([]byte(a.Mag))
	if a.Neg {
		n.Neg(n)
	}
	return n
}

// canonical undoes value.
func canonical(n *big.Int) api.Wide {
	return api.Wide{Neg: n.Sign() < 0, Mag: string(n.Bytes())}
}

// expectCheck fails the test if Check does not return what is wanted, or changes its arguments.
func expectCheck(t *testing.T, name string, a api.Mat, s api.Smith, want bool) {
	t.Helper()
	oldA, oldS := copyOf(a), copyOfSmith(s)
	if smith.Check(a, s) != want {
		t.Fatalf("%s: Check of %s with U %s, UI %s, D %s, V %s, VI %s: %v", name, show(a), show(s.U), show(s.UI), show(s.D), show(s.V), show(s.VI), !want)
	}
	if !same(a, oldA) || !sameSmith(s, oldS) {
		t.Fatalf("%s: Check changes its arguments", name)
	}
}
