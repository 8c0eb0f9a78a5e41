package matrix_test

import (
	"math"
	"math/big"
	"strings"
	"testing"

	"cocycle/api"
	"cocycle/matrix"
	"cocycle/wide"
)

// generator makes the same numbers in each run (xorshift).
type generator uint64

func (g *generator) next() uint64 {
	*g ^= *g << 13
	*g ^= *g >> 7
	*g ^= *g << 17
	return uint64(*g)
}

func (g *generator) below(n int) int {
	return int(g.next() >> 11 % uint64(n))
}

// between returns a number from -most to most.
func (g *generator) between(most int) int {
	return g.below(2*most+1) - most
}

// number returns a number of so many bytes, or less, of either sign.
func (g *generator) number(size int) api.Wide {
	mag := make([]byte, size)
	for i := range mag {
		mag[i] = byte(g.next() >> 24)
	}
	n := canonical(new(big.Int).SetBytes(mag))
	if g.below(2) == 1 {
		return wide.Neg(n)
	}
	return n
}

// matrix returns a matrix of numbers of so many bytes, or less, some of them 0.
func (g *generator) matrix(rows, cols, size int) api.Mat {
	a := matrix.Zero(rows, cols)
	for i := range a.E {
		if g.below(4) > 0 {
			a.E[i] = g.number(size)
		}
	}
	return a
}

// unimodular returns a matrix with n rows and columns whose determinant is 1: the product of two triangular ones with ones on the diagonal and numbers from -most to most beside it.
func (g *generator) unimodular(t *testing.T, n, most int) api.Mat {
	t.Helper()
	lower, upper := matrix.One(n), matrix.One(n)
	for i := range n {
		for j := range i {
			lower.E[i*n+j] = wide.From(g.between(most))
			upper.E[j*n+i] = wide.From(g.between(most))
		}
	}
	return multiplied(t, lower, upper)
}

func multiplied(t *testing.T, a, b api.Mat) api.Mat {
	t.Helper()
	product, ok := matrix.Mul(a, b)
	if !ok {
		t.Fatalf("Mul of matrices with %d columns and %d rows: false", a.Cols, b.Rows)
	}
	return product
}

// canonical returns the only canonical api.Wide whose value is n.
func canonical(n *big.Int) api.Wide {
	return api.Wide{Neg: n.Sign() < 0, Mag: string(n.Bytes())}
}

// value undoes canonical.
func value(a api.Wide) *big.Int {
	n := new(big.Int).SetBytes([]byte(a.Mag))
	if a.Neg {
		n.Neg(n)
	}
	return n
}

// element returns an element of a matrix that is right, and has it.
func element(a api.Mat, row, col int) *big.Int {
	return value(a.E[row*a.Cols+col])
}

// build returns the matrix with these elements.
func build(rows, cols int, element func(row, col int) *big.Int) api.Mat {
	a := api.Mat{Rows: rows, Cols: cols}
	for i := range rows {
		for j := range cols {
			a.E = append(a.E, canonical(element(i, j)))
		}
	}
	return a
}

// power returns 2^k + more.
func power(k uint, more int64) api.Wide {
	return canonical(new(big.Int).Add(new(big.Int).Lsh(big.NewInt(1), k), big.NewInt(more)))
}

// filled returns a matrix all of whose elements are x.
func filled(rows, cols int, x api.Wide) api.Mat {
	return build(rows, cols, func(int, int) *big.Int { return value(x) })
}

// diagonal returns a matrix with these numbers on its diagonal, and zeros elsewhere.
func diagonal(list ...api.Wide) api.Mat {
	a := matrix.Zero(len(list), len(list))
	for i, x := range list {
		a.E[i*len(list)+i] = x
	}
	return a
}

// rightMatrices returns matrices of many shapes, small and large elements, and both signs.
func rightMatrices() []api.Mat {
	g := generator(11)
	list := []api.Mat{
		{},
		{E: []api.Wide{}},
		{Rows: 3},
		{Cols: 3},
		{Rows: 200},
		{Cols: 200},
		matrix.Of([][]int{{7}}),
		matrix.Of([][]int{{0}}),
		matrix.Of([][]int{{1, -2, 3}}),
		matrix.Of([][]int{{math.MaxInt}, {math.MinInt}, {0}}),
		matrix.One(4),
		matrix.Zero(2, 3),
	}
	for rows := 1; rows <= 5; rows++ {
		for cols := 1; cols <= 5; cols++ {
			list = append(list, g.matrix(rows, cols, 1), g.matrix(rows, cols, 7+g.below(40)))
		}
	}
	return append(list, g.matrix(200, 2, 3), g.matrix(1, 200, 12))
}

// wrongNumbers returns numbers that are not canonical.
func wrongNumbers() []api.Wide {
	return []api.Wide{
		{Neg: true},
		{Mag: "\x00"},
		{Neg: true, Mag: "\x00"},
		{Mag: "\x00\x05"},
		{Neg: true, Mag: "\x00\x05"},
		{Mag: "\x00" + strings.Repeat("\xff", 20)},
	}
}

// wrongMatrices returns matrices that are not right, by what is wrong with them.
func wrongMatrices() map[string]api.Mat {
	ones := filled(4, 100, wide.From(1)).E
	list := map[string]api.Mat{
		"an element too few":                   {Rows: 2, Cols: 2, E: ones[:3]},
		"an element too many":                  {Rows: 2, Cols: 2, E: ones[:5]},
		"no elements":                          {Rows: 1, Cols: 1},
		"elements without rows":                {Cols: 2, E: ones[:2]},
		"elements without columns":             {Rows: 2, E: ones[:2]},
		"elements without either":              {E: ones[:1]},
		"negative rows":                        {Rows: -1, Cols: 2},
		"negative columns":                     {Rows: 2, Cols: -1},
		"negative rows, no columns":            {Rows: -1},
		"negative columns, no rows":            {Cols: -1},
		"both negative, right product":         {Rows: -1, Cols: -1, E: ones[:1]},
		"both negative, greater product":       {Rows: -2, Cols: -2, E: ones[:4]},
		"201 rows":                             {Rows: 201, Cols: 1, E: ones[:201]},
		"201 columns":                          {Rows: 1, Cols: 201, E: ones[:201]},
		"201 rows, no columns":                 {Rows: 201},
		"201 columns, no rows":                 {Cols: 201},
		"a product that wraps around to 0":     {Rows: 1 << 32, Cols: 1 << 32},
		"a product that wraps around to 1":     {Rows: math.MaxInt, Cols: math.MaxInt, E: ones[:1]},
		"the least int":                        {Rows: math.MinInt, Cols: math.MinInt},
		"the least int, and 2 columns":         {Rows: math.MinInt, Cols: 2},
		"the greatest int, and no rows":        {Cols: math.MaxInt},
		"a wrong number at the end of a row":   {Rows: 2, Cols: 2, E: []api.Wide{ones[0], {Neg: true}, ones[0], ones[0]}},
		"a wrong number at the very end":       {Rows: 2, Cols: 2, E: []api.Wide{ones[0], ones[0], ones[0], {Mag: "\x00"}}},
		"only wrong numbers":                   {Rows: 1, Cols: 6, E: wrongNumbers()},
		"only wrong numbers, below each other": {Rows: 6, Cols: 1, E: wrongNumbers()},
	}
	for i, n := range wrongNumbers() {
		list["wrong number "+string(rune('0'+i))] = api.Mat{Rows: 1, Cols: 1, E: []api.Wide{n}}
	}
	return list
}

// copyOf returns a copy of a matrix that shares no memory with it.
func copyOf(a api.Mat) api.Mat {
	a.E = append([]api.Wide{}, a.E...)
	return a
}

// same reports whether two matrices are the same, right or not.
func same(a, b api.Mat) bool {
	if a.Rows != b.Rows || a.Cols != b.Cols || len(a.E) != len(b.E) {
		return false
	}
	for i := range a.E {
		if a.E[i] != b.E[i] {
			return false
		}
	}
	return true
}

// show writes a matrix such that its elements can be read.
func show(a api.Mat) string {
	var b strings.Builder
	b.WriteString(big.NewInt(int64(a.Rows)).String() + " x " + big.NewInt(int64(a.Cols)).String() + ":")
	for i, x := range a.E {
		if i == 40 {
			b.WriteString(" ..")
			break
		}
		if a.Cols > 0 && i%a.Cols == 0 && i > 0 {
			b.WriteString(" /")
		}
		b.WriteString(" " + wide.Text(x))
	}
	return b.String()
}

// expect fails the test if a result is not the wanted matrix, or if it is not right.
func expect(t *testing.T, call string, got, want api.Mat) {
	t.Helper()
	if !same(got, want) {
		t.Fatalf("%s: %s, want %s", call, show(got), show(want))
	}
	if !matrix.Right(got) {
		t.Fatalf("%s: a result that is not right: %#v", call, got)
	}
}

// expectTrue fails the test if a result is not the wanted matrix and true.
func expectTrue(t *testing.T, call string, got api.Mat, ok bool, want api.Mat) {
	t.Helper()
	if !ok {
		t.Fatalf("%s: false, want %s", call, show(want))
	}
	expect(t, call, got, want)
}

// expectFalse fails the test if a result is not the zero matrix and false.
func expectFalse(t *testing.T, call string, got api.Mat, ok bool) {
	t.Helper()
	if ok {
		t.Fatalf("%s: true", call)
	}
	expect(t, call, got, api.Mat{})
}
