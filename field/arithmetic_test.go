package field_test

import (
	"testing"

	"cocycle/api"
	"cocycle/field"
)

// P5.3

// wanted is what a function of two matrices is compared with: when it has a result, and which one.
type wanted struct {
	fits   func(a, b api.FMat) bool
	result func(a, b api.FMat) api.FMat
}

func wantedOf(name string) wanted {
	switch name {
	case "Add":
		return wanted{func(a, b api.FMat) bool { return a.Rows == b.Rows && a.Cols == b.Cols }, plus}
	case "Mul":
		return wanted{func(a, b api.FMat) bool { return a.Cols == b.Rows }, times}
	}
	return wanted{func(a, b api.FMat) bool { return a.Rows == b.Rows && a.Cols+b.Cols <= 400 }, joined}
}

func joined(a, b api.FMat) api.FMat {
	return build(a.P, a.Rows, a.Cols+b.Cols, func(i, j int) int {
		if j < a.Cols {
			return at(a, i, j)
		}
		return at(b, i, j-a.Cols)
	})
}

func TestAddMulAndJoin(t *testing.T) {
	list := rightMatrices()
	for _, f := range binaries()[:3] {
		want := wantedOf(f.name)
		for _, a := range list {
			for _, b := range list {
				got, ok := f.call(a, b)
				call := f.name + " of " + show(a) + " and " + show(b)
				if a.P == b.P && want.fits(a, b) {
					expectTrue(t, call, got, ok, want.result(a, b))
				} else {
					expectFalse(t, call, got, ok)
				}
			}
		}
	}
}

func TestFunctionsOfTwoMatricesOfWhichOneIsWrong(t *testing.T) {
	others := append(rightMatrices(), field.One(2, 2), field.One(5, 1), field.One(5, 2))
	for _, f := range binaries() {
		for name, a := range wrongMatrices() {
			got, ok := f.call(a, a)
			expectFalse(t, f.name+" of a matrix with "+name+", twice", got, ok)
			for _, b := range others {
				got, ok = f.call(a, b)
				expectFalse(t, f.name+" of a matrix with "+name, got, ok)
				got, ok = f.call(b, a)
				expectFalse(t, f.name+" of a second matrix with "+name, got, ok)
			}
		}
	}
}

func TestFunctionsOfTwoMatricesOfSeveralFields(t *testing.T) {
	for _, f := range binaries() {
		for _, s := range []shape{{0, 0}, {1, 1}, {2, 2}} {
			zero := func(int, int) int { return 0 }
			got, ok := f.call(build(3, s.rows, s.cols, zero), build(5, s.rows, s.cols, zero))
			expectFalse(t, f.name+" of several fields", got, ok)
		}
	}
}

// TestSumsOfAllElements adds and multiplies all elements of a field.
func TestSumsOfAllElements(t *testing.T) {
	for _, p := range []int{2, 3, 5, 7, 397} {
		row := build(p, 1, p, func(_, j int) int { return j })
		column := field.Transpose(row)
		got, ok := field.Mul(column, row)
		expectTrue(t, "all products", got, ok, build(p, p, p, func(i, j int) int { return i * j }))
		ones := build(p, 1, p, func(int, int) int { return 1 })
		first, _ := field.Mul(column, ones)
		second, _ := field.Mul(field.Transpose(ones), row)
		got, ok = field.Add(first, second)
		expectTrue(t, "all sums", got, ok, build(p, p, p, func(i, j int) int { return i + j }))
	}
}

func TestArithmeticOfManyRowsAndColumns(t *testing.T) {
	g := generator(5)
	a, b := g.matrix(997, 400, 400, 1000), g.matrix(997, 400, 400, 3)
	greatest := build(997, 400, 400, func(int, int) int { return 996 })
	for _, f := range binaries()[:2] {
		for _, x := range [][2]api.FMat{{a, b}, {b, a}, {greatest, greatest}} {
			got, ok := f.call(x[0], x[1])
			expectTrue(t, f.name+" of 400 rows and columns", got, ok, wantedOf(f.name).result(x[0], x[1]))
		}
	}
	expect(t, "Transpose of 400 rows and columns", field.Transpose(a), build(997, 400, 400, func(i, j int) int { return at(a, j, i) }))
}

func TestJoinOfManyColumns(t *testing.T) {
	g := generator(6)
	for cols := range 402 {
		a, b := g.matrix(3, 2, min(cols, 400), 9), g.matrix(3, 2, 400-cols/2, 9)
		got, ok := field.Join(a, b)
		if a.Cols+b.Cols <= 400 {
			expectTrue(t, "Join", got, ok, joined(a, b))
		} else {
			expectFalse(t, "Join", got, ok)
		}
	}
	got, ok := field.Join(api.FMat{P: 3, Cols: 200}, api.FMat{P: 3, Cols: 200})
	expectTrue(t, "Join without rows", got, ok, api.FMat{P: 3, Cols: 400})
	got, ok = field.Join(api.FMat{P: 3, Cols: 200}, api.FMat{P: 3, Cols: 201})
	expectFalse(t, "Join without rows", got, ok)
}

func TestTranspose(t *testing.T) {
	for _, a := range rightMatrices() {
		want := build(a.P, a.Cols, a.Rows, func(i, j int) int { return at(a, j, i) })
		expect(t, "Transpose of "+show(a), field.Transpose(a), want)
	}
}

// P1, R2 and R3 for all functions

func TestFunctionsOfMatricesThatAreNotRight(t *testing.T) {
	for name, a := range wrongMatrices() {
		for _, f := range unaries() {
			expect(t, f.name+" of a matrix with "+name, f.call(a), api.FMat{})
		}
		if _, pivots := field.Echelon(a); len(pivots) != 0 {
			t.Errorf("Echelon of a matrix with %s: pivots %v", name, pivots)
		}
		if rank := field.Rank(a); rank != 0 {
			t.Errorf("Rank of a matrix with %s: %d", name, rank)
		}
		inverse, ok := field.Inverse(a)
		expectFalse(t, "Inverse of a matrix with "+name, inverse, ok)
	}
}

func TestArgumentsAreNotChanged(t *testing.T) {
	list := append(rightMatrices(), field.One(5, 3), field.One(2, 2))
	for _, a := range wrongMatrices() {
		list = append(list, a)
	}
	for _, a := range list {
		old := copyOf(a)
		for _, f := range unaries() {
			f.call(a)
			expect(t, "argument of "+f.name, a, old)
		}
		for _, f := range binaries() {
			b := copyOf(a)
			f.call(a, b)
			expect(t, "first argument of "+f.name, a, old)
			expect(t, "second argument of "+f.name, b, old)
		}
		field.Rank(a)
		field.Right(a)
		field.Equal(a, a)
		expect(t, "argument", a, old)
	}
}

func TestResultsShareNoMemory(t *testing.T) {
	list := append(rightMatrices(), field.One(5, 3), build(5, 3, 4, func(int, int) int { return 0 }))
	for _, a := range list {
		old := copyOf(a)
		for _, f := range unaries() {
			got := f.call(a)
			want := copyOf(got)
			overwrite(got.E)
			expect(t, "argument of "+f.name, a, old)
			expect(t, f.name+" again", f.call(a), want)
		}
		for _, f := range binaries() {
			b := copyOf(a)
			got, _ := f.call(a, b)
			want := copyOf(got)
			overwrite(got.E)
			expect(t, "first argument of "+f.name, a, old)
			expect(t, "second argument of "+f.name, b, old)
			again, _ := f.call(a, b)
			expect(t, f.name+" again", again, want)
		}
		e, pivots := field.Echelon(a)
		want := copyOf(e)
		overwrite(pivots)
		expect(t, "Echelon, its pivots changed", e, want)
	}
}
