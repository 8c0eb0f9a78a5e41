package matrix_test

import (
	"math"
	"math/big"
	"testing"

	"cocycle/api"
	"cocycle/matrix"
	"cocycle/wide"
)

// binary is a function of two matrices, with what it is compared with.
type binary struct {
	name string
	call func(a, b api.Mat) (api.Mat, bool)
	fits func(a, b api.Mat) bool
	want func(a, b api.Mat) api.Mat
}

func binaries() []binary {
	return []binary{
		{"Add", matrix.Add, sameShape, func(a, b api.Mat) api.Mat { return placeByPlace(a, b, (*big.Int).Add) }},
		{"Sub", matrix.Sub, sameShape, func(a, b api.Mat) api.Mat { return placeByPlace(a, b, (*big.Int).Sub) }},
		{"Mul", matrix.Mul, func(a, b api.Mat) bool { return a.Cols == b.Rows }, productOf},
		{"Join", matrix.Join, func(a, b api.Mat) bool { return a.Rows == b.Rows && a.Cols+b.Cols <= 200 }, joined},
	}
}

func sameShape(a, b api.Mat) bool {
	return a.Rows == b.Rows && a.Cols == b.Cols
}

func placeByPlace(a, b api.Mat, operation func(z, x, y *big.Int) *big.Int) api.Mat {
	return build(a.Rows, a.Cols, func(i, j int) *big.Int {
		return operation(new(big.Int), element(a, i, j), element(b, i, j))
	})
}

func productOf(a, b api.Mat) api.Mat {
	return build(a.Rows, b.Cols, func(i, j int) *big.Int {
		sum := new(big.Int)
		for k := range a.Cols {
			sum.Add(sum, new(big.Int).Mul(element(a, i, k), element(b, k, j)))
		}
		return sum
	})
}

// P2.3 and, for Join, P2.4: all pairs of matrices, those that fit and those that do not.

func TestFunctionsOfTwoMatrices(t *testing.T) {
	list := rightMatrices()
	for _, f := range binaries() {
		for _, a := range list {
			for _, b := range list {
				got, ok := f.call(a, b)
				call := f.name + "(" + show(a) + ", " + show(b) + ")"
				if f.fits(a, b) {
					expectTrue(t, call, got, ok, f.want(a, b))
				} else {
					expectFalse(t, call, got, ok)
				}
			}
		}
	}
}

func TestFunctionsOfTwoMatricesOfWhichOneIsWrong(t *testing.T) {
	others := append(rightMatrices(), matrix.One(2), filled(2, 2, wide.From(3)))
	for _, f := range binaries() {
		for name, a := range wrongMatrices() {
			got, ok := f.call(a, a)
			expectFalse(t, f.name+" of a matrix with "+name+", twice", got, ok)
			for _, b := range others {
				got, ok = f.call(a, b)
				expectFalse(t, f.name+" of a matrix with "+name, got, ok)
				got, ok = f.call(b, a)
				expectFalse(t, f.name+" of a second matrix with "+name, got, ok)
			}
		}
	}
}

func TestMulExamples(t *testing.T) {
	got, ok := matrix.Mul(matrix.Of([][]int{{1, 2}, {3, 4}}), matrix.Of([][]int{{0, 1}, {1, 0}}))
	expectTrue(t, "Mul", got, ok, matrix.Of([][]int{{2, 1}, {4, 3}}))
	got, ok = matrix.Mul(api.Mat{Rows: 3}, api.Mat{Cols: 2})
	expectTrue(t, "Mul without products", got, ok, matrix.Zero(3, 2))
	got, ok = matrix.Mul(api.Mat{Cols: 3}, matrix.Zero(3, 2))
	expectTrue(t, "Mul without rows", got, ok, api.Mat{Cols: 2})
	got, ok = matrix.Mul(matrix.Of([][]int{{1}, {2}}), api.Mat{Rows: 1})
	expectTrue(t, "Mul without columns", got, ok, api.Mat{Rows: 2})
}

// TestMulOfNumbersAroundTheLengthOfAnInt adds up products just below and above 2^63.
func TestMulOfNumbersAroundTheLengthOfAnInt(t *testing.T) {
	numbers := []api.Wide{{}, wide.From(1), wide.From(math.MaxInt), wide.From(math.MinInt), wide.From(math.MinInt + 1), power(63, 0), power(64, 0), wide.Neg(power(64, -1))}
	for k := uint(26); k <= 33; k++ {
		numbers = append(numbers, power(k, -1), power(k, 0), wide.Neg(power(k, 0)), power(k, 1))
	}
	for _, x := range numbers {
		for _, y := range numbers {
			for _, n := range []int{1, 2, 3, 7, 8} {
				a, b := filled(1, n, x), filled(n, 1, y)
				got, ok := matrix.Mul(a, b)
				expectTrue(t, "Mul of "+show(a)+" and "+show(b), got, ok, productOf(a, b))
			}
		}
	}
}

func TestMulOfLongSums(t *testing.T) {
	for _, k := range []uint{26, 27, 28, 29, 31, 32, 63, 64} {
		for _, more := range []int64{-1, 0, 1} {
			x := power(k, more)
			a, b := filled(1, 200, x), filled(200, 1, wide.Neg(x))
			got, ok := matrix.Mul(a, b)
			expectTrue(t, "Mul of 200 equal products", got, ok, productOf(a, b))
			a.E[17], b.E[99] = wide.Neg(x), api.Wide{}
			got, ok = matrix.Mul(a, b)
			expectTrue(t, "Mul of 200 products", got, ok, productOf(a, b))
		}
	}
}

func TestMulOfManyRowsAndColumns(t *testing.T) {
	g := generator(5)
	a, b := g.matrix(200, 200, 2), g.matrix(200, 200, 3)
	got, ok := matrix.Mul(a, b)
	expectTrue(t, "Mul of 200 rows and columns", got, ok, productOf(a, b))
	a = g.matrix(200, 3, 20)
	got, ok = matrix.Mul(a, matrix.Transpose(a))
	expectTrue(t, "Mul of long columns", got, ok, productOf(a, matrix.Transpose(a)))
	got, ok = matrix.Mul(matrix.Transpose(a), a)
	expectTrue(t, "Mul of long rows", got, ok, productOf(matrix.Transpose(a), a))
}

func TestAddAndSubOfManyRowsAndColumns(t *testing.T) {
	g := generator(6)
	a, b := g.matrix(200, 200, 9), g.matrix(200, 200, 9)
	for _, f := range binaries()[:2] {
		got, ok := f.call(a, b)
		expectTrue(t, f.name, got, ok, f.want(a, b))
	}
	got, ok := matrix.Sub(a, a)
	expectTrue(t, "Sub of a matrix and itself", got, ok, matrix.Zero(200, 200))
}

// column returns a list as a matrix with one column.
func column(x []api.Wide) api.Mat {
	return api.Mat{Rows: len(x), Cols: 1, E: x}
}

func TestApply(t *testing.T) {
	g := generator(3)
	for _, a := range rightMatrices() {
		for _, size := range []int{1, 6, 30} {
			x := g.matrix(a.Cols, 1, size).E
			got, ok := matrix.Apply(a, x)
			expectTrue(t, "Apply of "+show(a), column(got), ok, productOf(a, column(x)))
		}
	}
}

func TestApplyWithoutRowsOrColumns(t *testing.T) {
	for _, x := range [][]api.Wide{nil, {}} {
		if got, ok := matrix.Apply(api.Mat{}, x); !ok || len(got) != 0 {
			t.Errorf("Apply of the zero matrix: %v, %v", got, ok)
		}
		got, ok := matrix.Apply(api.Mat{Rows: 2}, x)
		expectTrue(t, "Apply without columns", column(got), ok, matrix.Zero(2, 1))
	}
	if got, ok := matrix.Apply(api.Mat{Cols: 2}, []api.Wide{wide.From(1), wide.From(2)}); !ok || len(got) != 0 {
		t.Errorf("Apply without rows: %v, %v", got, ok)
	}
}

func TestApplyOfWhatDoesNotFit(t *testing.T) {
	for _, a := range rightMatrices() {
		for _, n := range []int{0, 1, 2, 3, 4, 5, 6, 199, 200, 201, 400} {
			got, ok := matrix.Apply(a, make([]api.Wide, n))
			if ok != (n == a.Cols) || !ok && len(got) != 0 {
				t.Errorf("Apply of %s to %d numbers: %v, %v", show(a), n, got, ok)
			}
		}
	}
	a := matrix.Of([][]int{{1, 2}, {3, 4}})
	for _, n := range wrongNumbers() {
		for _, x := range [][]api.Wide{{n, wide.From(1)}, {wide.From(1), n}} {
			if got, ok := matrix.Apply(a, x); ok || len(got) != 0 {
				t.Errorf("Apply to %#v: %v, %v", x, got, ok)
			}
		}
	}
	// The product would not depend on the wrong number.
	if got, ok := matrix.Apply(matrix.Zero(1, 1), wrongNumbers()[:1]); ok || len(got) != 0 {
		t.Errorf("Apply of zeros to -0: %v, %v", got, ok)
	}
	if got, ok := matrix.Apply(api.Mat{Cols: 1}, wrongNumbers()[:1]); ok || len(got) != 0 {
		t.Errorf("Apply without rows to -0: %v, %v", got, ok)
	}
}

func TestApplyOfWrongMatrices(t *testing.T) {
	for name, a := range wrongMatrices() {
		for _, n := range []int{0, 1, 2, 6, 100, 201} {
			if got, ok := matrix.Apply(a, make([]api.Wide, n)); ok || len(got) != 0 {
				t.Errorf("Apply of a matrix with %s: %v, %v", name, got, ok)
			}
		}
	}
}
