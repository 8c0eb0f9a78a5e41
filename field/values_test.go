package field_test

import (
	"math"
	"slices"
	"strconv"
	"strings"
	"testing"

	"cocycle/api"
	"cocycle/field"
)

// generator makes the same numbers in each run (xorshift).
type generator uint64

func (g *generator) next() uint64 {
	*g ^= *g << 13
	*g ^= *g >> 7
	*g ^= *g << 17
	return uint64(*g)
}

func (g *generator) below(n int) int {
	return int(g.next() >> 11 % uint64(n))
}

// matrix returns a matrix modulo p, of whose elements about one in so many is certainly 0.
func (g *generator) matrix(p, rows, cols, zeros int) api.FMat {
	return build(p, rows, cols, func(int, int) int {
		if g.below(zeros) == 0 {
			return 0
		}
		return g.below(p)
	})
}

// invertible returns a product of triangular matrices without zeros on their diagonals.
func (g *generator) invertible(p, n int) api.FMat {
	triangle := func(isZero func(i, j int) bool) api.FMat {
		return build(p, n, n, func(i, j int) int {
			if i == j {
				return 1 + g.below(p-1)
			}
			if isZero(i, j) {
				return 0
			}
			return g.below(p)
		})
	}
	lower := triangle(func(i, j int) bool { return i < j })
	upper := triangle(func(i, j int) bool { return i > j })
	return times(lower, upper)
}

// reduced returns a reduced matrix with so many pivots, and their columns.
func (g *generator) reduced(p, rows, cols, rank int) (api.FMat, []int) {
	var pivots []int
	for col := range cols {
		if left := rank - len(pivots); left > 0 && g.below(cols-col) < left {
			pivots = append(pivots, col)
		}
	}
	return build(p, rows, cols, func(i, j int) int {
		if i >= rank || j < pivots[i] {
			return 0
		}
		if slices.Contains(pivots, j) {
			return truth(j == pivots[i])
		}
		return g.below(p)
	}), pivots
}

// truth returns 1 for true, and 0 for false.
func truth(b bool) int {
	if b {
		return 1
	}
	return 0
}

// build returns the matrix modulo p of the residues of these elements.
func build(p, rows, cols int, element func(row, col int) int) api.FMat {
	a := api.FMat{P: p, Rows: rows, Cols: cols}
	for i := range rows {
		for j := range cols {
			a.E = append(a.E, (element(i, j)%p+p)%p)
		}
	}
	return a
}

// diagonal returns a matrix with these numbers on its diagonal, and zeros elsewhere.
func diagonal(p, n int, list ...int) api.FMat {
	return build(p, n, n, func(i, j int) int {
		if i == j && i < len(list) {
			return list[i]
		}
		return 0
	})
}

func at(a api.FMat, row, col int) int {
	return a.E[row*a.Cols+col]
}

// times returns the product of two matrices that fit.
func times(a, b api.FMat) api.FMat {
	return build(a.P, a.Rows, b.Cols, func(i, j int) int {
		sum := 0
		for k := range a.Cols {
			sum += at(a, i, k) * at(b, k, j)
		}
		return sum
	})
}

// plus returns the sum of two matrices of the same shape.
func plus(a, b api.FMat) api.FMat {
	return build(a.P, a.Rows, a.Cols, func(i, j int) int { return at(a, i, j) + at(b, i, j) })
}

// columnsOf returns these columns of a matrix.
func columnsOf(a api.FMat, columns []int) api.FMat {
	return build(a.P, a.Rows, len(columns), func(i, k int) int { return at(a, i, columns[k]) })
}

// shape is a number of rows and a number of columns.
type shape struct{ rows, cols int }

func shapes() []shape {
	return []shape{{0, 0}, {1, 0}, {0, 1}, {3, 0}, {0, 3}, {1, 1}, {1, 2}, {2, 1}, {2, 2}, {2, 3}, {3, 2}, {1, 6}, {6, 1}, {3, 3}, {4, 3}, {3, 4}, {5, 5}, {4, 9}, {9, 4}, {12, 12}, {400, 0}, {0, 400}, {1, 400}, {400, 1}}
}

// somePrimes returns the least and the greatest primes, and a few others.
func somePrimes() []int {
	return []int{2, 3, 5, 7, 31, 101, 499, 991, 997}
}

// allPrimes returns the primes up to 997, found without divisions.
func allPrimes() []int {
	var isProduct [998]bool
	var primes []int
	for n := 2; n < len(isProduct); n++ {
		if isProduct[n] {
			continue
		}
		primes = append(primes, n)
		for product := n; product < len(isProduct); product += n {
			isProduct[product] = true
		}
	}
	return primes
}

// wrongPrimes returns numbers that are no primes, or too great.
func wrongPrimes() []int {
	return []int{0, 1, 4, 6, 9, 25, 961, 993, 995, 996, 998, 999, 1000, 1009, 2003, 65537, 1<<31 - 1, 1<<32 + 2, 1<<32 + 997, math.MaxInt, -1, -2, -3, -7, -997, math.MinInt, math.MinInt + 3}
}

// rightMatrices returns matrices of many shapes, modulo several primes.
func rightMatrices() []api.FMat {
	g := generator(11)
	list := []api.FMat{{P: 2}, {P: 2, E: []int{}}, {P: 997, Rows: 400}, {P: 997, Cols: 400}}
	for _, p := range []int{2, 3, 5, 997} {
		for rows := range 5 {
			for cols := range 5 {
				list = append(list, g.matrix(p, rows, cols, 4))
			}
		}
		list = append(list, build(p, 2, 2, func(int, int) int { return -1 }), build(p, 2, 2, func(int, int) int { return 0 }))
	}
	return append(list, g.matrix(5, 400, 2, 3), g.matrix(5, 2, 400, 3), g.matrix(5, 2, 399, 3), g.matrix(5, 2, 1, 9))
}

// wrongMatrices returns matrices that are not right, by what is wrong with them.
func wrongMatrices() map[string]api.FMat {
	ones := slices.Repeat([]int{1}, 401)
	list := map[string]api.FMat{
		"nothing":                          {},
		"an element too few":               {P: 5, Rows: 2, Cols: 2, E: ones[:3]},
		"an element too many":              {P: 5, Rows: 2, Cols: 2, E: ones[:5]},
		"no elements":                      {P: 5, Rows: 1, Cols: 1},
		"elements without rows":            {P: 5, Cols: 2, E: ones[:2]},
		"elements without columns":         {P: 5, Rows: 2, E: ones[:2]},
		"elements without either":          {P: 5, E: ones[:1]},
		"negative rows":                    {P: 5, Rows: -1, Cols: 2},
		"negative columns":                 {P: 5, Rows: 2, Cols: -1},
		"negative rows, no columns":        {P: 5, Rows: -1},
		"negative columns, no rows":        {P: 5, Cols: -1},
		"both negative":                    {P: 5, Rows: -1, Cols: -1, E: ones[:1]},
		"both negative, greater":           {P: 5, Rows: -2, Cols: -2, E: ones[:4]},
		"401 rows":                         {P: 5, Rows: 401, Cols: 1, E: ones},
		"401 columns":                      {P: 5, Rows: 1, Cols: 401, E: ones},
		"401 rows, no columns":             {P: 5, Rows: 401},
		"401 columns, no rows":             {P: 5, Cols: 401},
		"a product that wraps around to 0": {P: 5, Rows: 1 << 32, Cols: 1 << 32},
		"a product that wraps around to 1": {P: 5, Rows: math.MaxInt, Cols: math.MaxInt, E: ones[:1]},
		"the least int":                    {P: 5, Rows: math.MinInt, Cols: math.MinInt},
		"the element -1":                   {P: 5, Rows: 1, Cols: 1, E: []int{-1}},
		"the element p":                    {P: 5, Rows: 1, Cols: 1, E: []int{5}},
		"the element p at the end":         {P: 2, Rows: 2, Cols: 2, E: []int{1, 0, 1, 2}},
		"the element -1 in the middle":     {P: 997, Rows: 2, Cols: 2, E: []int{1, -1, 1, 2}},
		"the greatest int":                 {P: 997, Rows: 2, Cols: 2, E: []int{math.MaxInt, 0, 1, 2}},
		"the least int as element":         {P: 997, Rows: 2, Cols: 2, E: []int{1, 0, math.MinInt, 2}},
	}
	for _, p := range wrongPrimes() {
		list["the prime "+strconv.Itoa(p)] = api.FMat{P: p, Rows: 2, Cols: 2, E: []int{1, 0, 0, 1}}
		list["the prime "+strconv.Itoa(p)+" alone"] = api.FMat{P: p}
	}
	return list
}

// copyOf returns a copy of a matrix that shares no memory with it.
func copyOf(a api.FMat) api.FMat {
	a.E = slices.Clone(a.E)
	return a
}

// overwrite changes all elements of a list, and what is behind them.
func overwrite(list []int) {
	for i := range list[:cap(list)] {
		list[:cap(list)][i] = -77
	}
}

// same reports whether two matrices are the same, right or not.
func same(a, b api.FMat) bool {
	return a.P == b.P && a.Rows == b.Rows && a.Cols == b.Cols && slices.Equal(a.E, b.E)
}

// show writes a matrix such that its elements can be read.
func show(a api.FMat) string {
	var b strings.Builder
	b.WriteString(strconv.Itoa(a.Rows) + " x " + strconv.Itoa(a.Cols) + " modulo " + strconv.Itoa(a.P) + ":")
	for i, x := range a.E {
		if i == 40 {
			b.WriteString(" ..")
			break
		}
		if a.Cols > 0 && i%a.Cols == 0 && i > 0 {
			b.WriteString(" /")
		}
		b.WriteString(" " + strconv.Itoa(x))
	}
	return b.String()
}

// expect fails the test if a result is not the wanted matrix.
func expect(t *testing.T, call string, got, want api.FMat) {
	t.Helper()
	if !same(got, want) {
		t.Fatalf("%s: %s, want %s", call, show(got), show(want))
	}
}

// expectTrue fails the test if a result is not the wanted matrix and true, or if it is not right.
func expectTrue(t *testing.T, call string, got api.FMat, ok bool, want api.FMat) {
	t.Helper()
	if !ok {
		t.Fatalf("%s: false, want %s", call, show(want))
	}
	expect(t, call, got, want)
	if !field.Right(got) {
		t.Fatalf("%s: a result that is not right: %#v", call, got)
	}
}

// expectFalse fails the test if a result is not api.FMat{} and false.
func expectFalse(t *testing.T, call string, got api.FMat, ok bool) {
	t.Helper()
	if ok {
		t.Fatalf("%s: true", call)
	}
	expect(t, call, got, api.FMat{})
}

// unary is a function of a matrix, without the lists and truths that it returns too.
type unary struct {
	name string
	call func(a api.FMat) api.FMat
}

func unaries() []unary {
	return []unary{
		{"Transpose", field.Transpose},
		{"Kernel", field.Kernel},
		{"Image", field.Image},
		{"Echelon", func(a api.FMat) api.FMat { e, _ := field.Echelon(a); return e }},
		{"Inverse", func(a api.FMat) api.FMat { inverse, _ := field.Inverse(a); return inverse }},
	}
}

// binary is a function of two matrices.
type binary struct {
	name string
	call func(a, b api.FMat) (api.FMat, bool)
}

func binaries() []binary {
	return []binary{{"Add", field.Add}, {"Mul", field.Mul}, {"Join", field.Join}, {"Solve", field.Solve}}
}
