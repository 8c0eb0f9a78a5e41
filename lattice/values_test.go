package lattice_test

import (
	"math"
	"math/big"
	"strings"
	"testing"

	"cocycle/api"
	"cocycle/matrix"
	"cocycle/wide"
)

// generator makes the same numbers in each run (xorshift).
type generator uint64

func (g *generator) next() uint64 {
	*g ^= *g << 13
	*g ^= *g >> 7
	*g ^= *g << 17
	return uint64(*g)
}

func (g *generator) below(n int) int {
	return int(g.next() >> 11 % uint64(n))
}

// between returns a number from -most to most.
func (g *generator) between(most int) int {
	return g.below(2*most+1) - most
}

// matrix returns a matrix of numbers from -most to most, of which about one in so many is 0.
func (g *generator) matrix(rows, cols, most, zeros int) api.Mat {
	a := matrix.Zero(rows, cols)
	for i := range a.E {
		if g.below(zeros) > 0 {
			a.E[i] = wide.From(g.between(most))
		}
	}
	return a
}

// list returns so many numbers from -most to most.
func (g *generator) list(count, most int) []api.Wide {
	return g.matrix(1, count, most, 1000).E
}

// long returns a matrix of numbers with so many digits to the base 2^50.
func (g *generator) long(rows, cols, digits int) api.Mat {
	a := matrix.Zero(rows, cols)
	for range digits {
		for i, x := range a.E {
			a.E[i] = wide.Add(wide.Mul(x, wide.From(1<<50)), wide.From(g.between(1<<50)))
		}
	}
	return a
}

// unimodular returns a matrix with n rows and columns whose determinant is 1 or -1.
func (g *generator) unimodular(t *testing.T, n, most int) api.Mat {
	t.Helper()
	lower, upper := matrix.One(n), matrix.One(n)
	for i := range n {
		for j := range i {
			lower.E[i*n+j] = wide.From(g.between(most))
			upper.E[j*n+i] = wide.From(g.between(most))
		}
		if g.below(2) == 0 {
			lower.E[i*n+i] = wide.From(-1)
		}
	}
	return multiplied(t, lower, upper)
}

func multiplied(t *testing.T, list ...api.Mat) api.Mat {
	t.Helper()
	product := list[0]
	for _, a := range list[1:] {
		next, ok := matrix.Mul(product, a)
		if !ok {
			t.Fatalf("Mul of matrices with %d columns and %d rows: false", product.Cols, a.Rows)
		}
		product = next
	}
	return product
}

func joined(t *testing.T, a, b api.Mat) api.Mat {
	t.Helper()
	both, ok := matrix.Join(a, b)
	if !ok {
		t.Fatalf("Join of matrices with %d and %d rows: false", a.Rows, b.Rows)
	}
	return both
}

// diagonal returns a matrix with these numbers on its diagonal, and zeros elsewhere.
func diagonal(rows, cols int, list ...int) api.Mat {
	a := matrix.Zero(rows, cols)
	for k, n := range list {
		a.E[k*cols+k] = wide.From(n)
	}
	return a
}

// columnOf returns a column of a right matrix.
func columnOf(a api.Mat, j int) []api.Wide {
	var list []api.Wide
	for i := range a.Rows {
		list = append(list, a.E[i*a.Cols+j])
	}
	return list
}

func columnMatrix(list []api.Wide) api.Mat {
	return api.Mat{Rows: len(list), Cols: 1, E: list}
}

// shape is a number of rows and a number of columns.
type shape struct{ rows, cols int }

func shapes() []shape {
	return []shape{{0, 0}, {1, 0}, {0, 1}, {3, 0}, {0, 3}, {1, 1}, {1, 2}, {2, 1}, {2, 2}, {2, 3}, {3, 2}, {1, 5}, {5, 1}, {3, 3}, {4, 3}, {3, 4}, {4, 4}}
}

// wrongNumbers returns numbers that are not canonical.
func wrongNumbers() []api.Wide {
	return []api.Wide{
		{Neg: true},
		{Mag: "\x00"},
		{Neg: true, Mag: "\x00"},
		{Mag: "\x00\x01"},
		{Neg: true, Mag: "\x00\x01"},
		{Mag: "\x00" + strings.Repeat("\xff", 20)},
	}
}

// disguised returns numbers that are not canonical, with the same values.
func disguised(list []api.Wide) []api.Wide {
	numbers := []api.Wide{}
	for i, n := range list {
		if n.Mag == "" {
			n.Neg = i%2 == 0
		}
		if i%3 > 0 || n.Mag != "" {
			n.Mag = strings.Repeat("\x00", 1+i%3*20) + n.Mag
		}
		numbers = append(numbers, n)
	}
	return numbers
}

// wrongMatrices returns matrices that are not right, by what is wrong with them.
func wrongMatrices() map[string]api.Mat {
	ones := make([]api.Wide, 400)
	for i := range ones {
		ones[i] = wide.From(1)
	}
	list := map[string]api.Mat{
		"an element too few":               {Rows: 2, Cols: 2, E: ones[:3]},
		"an element too many":              {Rows: 2, Cols: 2, E: ones[:5]},
		"no elements":                      {Rows: 1, Cols: 1},
		"elements without rows":            {Cols: 2, E: ones[:2]},
		"elements without columns":         {Rows: 2, E: ones[:2]},
		"elements without either":          {E: ones[:1]},
		"negative rows":                    {Rows: -1, Cols: 2},
		"negative columns":                 {Rows: 2, Cols: -1},
		"negative rows, no columns":        {Rows: -1},
		"negative columns, no rows":        {Cols: -1},
		"both negative, right product":     {Rows: -1, Cols: -1, E: ones[:1]},
		"201 rows":                         {Rows: 201, Cols: 1, E: ones[:201]},
		"201 columns":                      {Rows: 1, Cols: 201, E: ones[:201]},
		"201 rows, no columns":             {Rows: 201},
		"201 columns, no rows":             {Cols: 201},
		"a product that wraps around to 0": {Rows: 1 << 32, Cols: 1 << 32},
		"a product that wraps around to 1": {Rows: math.MaxInt, Cols: math.MaxInt, E: ones[:1]},
		"the least int":                    {Rows: math.MinInt, Cols: math.MinInt},
		"only wrong numbers":               {Rows: 2, Cols: 3, E: wrongNumbers()},
		"a wrong number at the very end":   {Rows: 2, Cols: 2, E: []api.Wide{ones[0], {}, {}, {Mag: "\x00"}}},
	}
	for i, n := range wrongNumbers() {
		list["wrong number "+string(rune('0'+i))] = api.Mat{Rows: 1, Cols: 1, E: []api.Wide{n}}
	}
	return list
}

// copyOf returns a copy of a matrix that shares no memory with it.
func copyOf(a api.Mat) api.Mat {
	a.E = copyOfList(a.E)
	return a
}

func copyOfList(list []api.Wide) []api.Wide {
	return append([]api.Wide{}, list...)
}

// same reports whether two matrices are the same, right or not.
func same(a, b api.Mat) bool {
	return a.Rows == b.Rows && a.Cols == b.Cols && sameList(a.E, b.E)
}

func sameList(a, b []api.Wide) bool {
	if len(a) != len(b) {
		return false
	}
	for i := range a {
		if a[i] != b[i] {
			return false
		}
	}
	return true
}

// overwrite changes all elements of a list, and those behind its end.
func overwrite(list []api.Wide) {
	list = list[:cap(list)]
	for i := range list {
		list[i] = wide.From(-99)
	}
}

func numbers(list ...int) []api.Wide {
	var results []api.Wide
	for _, n := range list {
		results = append(results, wide.From(n))
	}
	return results
}

// show writes a matrix such that its elements can be read.
func show(a api.Mat) string {
	var b strings.Builder
	b.WriteString(wide.Text(wide.From(a.Rows)) + " x " + wide.Text(wide.From(a.Cols)) + ":")
	for i, x := range a.E {
		if i == 40 {
			b.WriteString(" ..")
			break
		}
		if a.Cols > 0 && i%a.Cols == 0 && i > 0 {
			b.WriteString(" /")
		}
		b.WriteString(" " + wide.Text(x))
	}
	return b.String()
}

func showList(list []api.Wide) string {
	return show(api.Mat{Rows: 1, Cols: len(list), E: list})
}

// value returns a number as a big one.
func value(a api.Wide) *big.Int {
	n := new(big.Int).SetBytes([]byte(a.Mag))
	if a.Neg {
		n.Neg(n)
	}
	return n
}

// isCanonical reports whether all numbers are.
func isCanonical(list []api.Wide) bool {
	for _, n := range list {
		if n.Mag == "" && n.Neg || n.Mag != "" && n.Mag[0] == 0 {
			return false
		}
	}
	return true
}

// productOf returns a x, with one number for each row of a.
func productOf(a api.Mat, x []api.Wide) []*big.Int {
	product := make([]*big.Int, a.Rows)
	for i := range product {
		product[i] = dot(a.E[i*a.Cols:(i+1)*a.Cols], x)
	}
	return product
}

// dot returns the sum of the products of numbers at the same place.
func dot(a, b []api.Wide) *big.Int {
	sum := new(big.Int)
	for i := range a {
		sum.Add(sum, new(big.Int).Mul(value(a[i]), value(b[i])))
	}
	return sum
}

// isMultiple reports whether m divides n, where 0 divides only 0.
func isMultiple(n, m *big.Int) bool {
	if m.Sign() == 0 {
		return n.Sign() == 0
	}
	return new(big.Int).Mod(n, m).Sign() == 0
}

// isSolution reports whether a x = b, for a right matrix, by the words of the chapter.
func isSolution(a api.Mat, x, b []api.Wide) bool {
	if len(x) != a.Cols {
		return false
	}
	for i, n := range productOf(a, x) {
		if n.Cmp(value(b[i])) != 0 {
			return false
		}
	}
	return true
}

// isRefutation reports whether y and m refute a x = b, for a right matrix, by the words of the chapter.
func isRefutation(a api.Mat, b, y []api.Wide, m api.Wide) bool {
	if len(y) != a.Rows || value(m).Sign() < 0 {
		return false
	}
	for j := range a.Cols {
		if !isMultiple(dot(columnOf(a, j), y), value(m)) {
			return false
		}
	}
	return !isMultiple(dot(b, y), value(m))
}

// rankOf returns the rank of a right matrix, by elimination with fractions.
func rankOf(a api.Mat) (rank int) {
	rows := make([][]*big.Rat, a.Rows)
	for i := range rows {
		for _, x := range a.E[i*a.Cols : (i+1)*a.Cols] {
			rows[i] = append(rows[i], new(big.Rat).SetInt(value(x)))
		}
	}
	for j := range a.Cols {
		for i := rank; i < len(rows); i++ {
			if rows[i][j].Sign() != 0 {
				rows[i], rows[rank] = rows[rank], rows[i]
				clearBelow(rows[rank:], j)
				rank++
				break
			}
		}
	}
	return rank
}

// clearBelow subtracts multiples of the first row from the others, until they are 0 in a column.
func clearBelow(rows [][]*big.Rat, j int) {
	for _, row := range rows[1:] {
		factor := new(big.Rat).Quo(row[j], rows[0][j])
		for k := range row {
			row[k] = new(big.Rat).Sub(row[k], new(big.Rat).Mul(factor, rows[0][k]))
		}
	}
}
