package field_test

import (
	"math"
	"math/big"
	"slices"
	"strconv"
	"strings"
	"testing"

	"cocycle/api"
	"cocycle/field"
)

// P5.1

func TestPrime(t *testing.T) {
	primes := allPrimes()
	if len(primes) != 168 {
		t.Fatalf("%d primes", len(primes))
	}
	for n := -2000; n <= 20000; n++ {
		if field.Prime(n) != slices.Contains(primes, n) {
			t.Errorf("Prime(%d): %v", n, field.Prime(n))
		}
	}
	for _, n := range wrongPrimes() {
		if field.Prime(n) {
			t.Errorf("Prime(%d): true", n)
		}
	}
}

func TestRight(t *testing.T) {
	for _, a := range rightMatrices() {
		if !field.Right(a) {
			t.Errorf("Right of %s: false", show(a))
		}
	}
	for name, a := range wrongMatrices() {
		if field.Right(a) {
			t.Errorf("Right of a matrix with %s: true", name)
		}
	}
}

func TestRightOfElements(t *testing.T) {
	for p := range 1200 {
		for _, n := range []int{math.MinInt, -p, -1, 0, 1, p - 1, p, p + 1, 2 * p, math.MaxInt} {
			a := api.FMat{P: p, Rows: 1, Cols: 3, E: []int{0, n, 0}}
			if field.Right(a) != (slices.Contains(allPrimes(), p) && n >= 0 && n < p) {
				t.Errorf("Right of %s: %v", show(a), field.Right(a))
			}
		}
	}
}

func TestRightOfSizes(t *testing.T) {
	for _, s := range []shape{{400, 400}, {399, 400}, {400, 401}, {401, 400}, {401, 401}, {160000, 1}, {1, 160000}, {-400, -400}} {
		a := api.FMat{P: 3, Rows: s.rows, Cols: s.cols, E: make([]int, s.rows*s.cols)}
		if field.Right(a) != (s.rows >= 0 && s.rows <= 400 && s.cols <= 400) {
			t.Errorf("Right of %d x %d zeros: %v", s.rows, s.cols, field.Right(a))
		}
	}
}

func TestEqual(t *testing.T) {
	list := append(rightMatrices(), rightMatrices()...) // such that there are equal ones without common memory
	for i, a := range list {
		for j, b := range list {
			if field.Equal(a, b) != same(a, b) || i == j && !field.Equal(a, b) {
				t.Errorf("Equal of %s and %s: %v", show(a), show(b), field.Equal(a, b))
			}
		}
	}
}

func TestEqualOfMatricesThatDifferInOneElement(t *testing.T) {
	g := generator(5)
	a := g.matrix(7, 3, 4, 9)
	for i := range a.E {
		b := copyOf(a)
		b.E[i] = (b.E[i] + 1) % 7
		if field.Equal(a, b) || field.Equal(b, a) {
			t.Errorf("Equal of %s and %s: true", show(a), show(b))
		}
	}
	for _, other := range []api.FMat{{P: 7, Rows: 4, Cols: 3, E: a.E}, {P: 7, Rows: 2, Cols: 6, E: a.E}, {P: 11, Rows: 3, Cols: 4, E: a.E}} {
		if field.Equal(a, other) || field.Equal(other, a) || !field.Equal(other, copyOf(other)) {
			t.Errorf("Equal of %s and %s", show(a), show(other))
		}
	}
}

func TestEqualOfMatricesThatAreNotRight(t *testing.T) {
	for name, a := range wrongMatrices() {
		if field.Equal(a, a) {
			t.Errorf("Equal of a matrix with %s and itself: true", name)
		}
		for _, b := range rightMatrices() {
			if field.Equal(a, b) || field.Equal(b, a) {
				t.Errorf("Equal of a matrix with %s and %s: true", name, show(b))
			}
		}
	}
}

// P5.2

func TestOfExamples(t *testing.T) {
	for _, x := range []struct {
		p    int
		rows [][]int
		want api.FMat
	}{
		{7, [][]int{{-1, 15}, {3}}, api.FMat{P: 7, Rows: 2, Cols: 2, E: []int{6, 1, 3, 0}}},
		{5, [][]int{{1, 2, 3}, {2, 4, 1}}, api.FMat{P: 5, Rows: 2, Cols: 3, E: []int{1, 2, 3, 2, 4, 1}}},
		{2, [][]int{{}, {3, 2, -5}, nil, {-2}}, api.FMat{P: 2, Rows: 4, Cols: 3, E: []int{0, 0, 0, 1, 0, 1, 0, 0, 0, 0, 0, 0}}},
		{997, [][]int{{997, -997, 996, -996, 998}}, api.FMat{P: 997, Rows: 1, Cols: 5, E: []int{0, 0, 996, 1, 1}}},
		{3, nil, api.FMat{P: 3}},
		{3, [][]int{}, api.FMat{P: 3}},
		{3, [][]int{nil, {}}, api.FMat{P: 3, Rows: 2}},
		{4, [][]int{{1}}, api.FMat{}},
	} {
		expect(t, "Of", field.Of(x.p, x.rows), x.want)
	}
}

func TestOfResidues(t *testing.T) {
	g := generator(3)
	numbers := []int{0, 1, -1, math.MaxInt, math.MinInt, math.MaxInt - 1, math.MinInt + 1, 1 << 32, -1 << 32}
	for range 20 {
		numbers = append(numbers, int(g.next()), int(g.next()>>40), -int(g.next()>>50))
	}
	for _, p := range allPrimes() {
		got := field.Of(p, [][]int{numbers})
		want := api.FMat{P: p, Rows: 1, Cols: len(numbers)}
		for _, n := range numbers {
			want.E = append(want.E, int(new(big.Int).Mod(big.NewInt(int64(n)), big.NewInt(int64(p))).Int64()))
		}
		expect(t, "Of", got, want)
	}
}

func TestOfSizes(t *testing.T) {
	long := slices.Repeat([]int{-1}, 401)
	many := slices.Repeat([][]int{{1}}, 401)
	expect(t, "Of 400 columns", field.Of(5, [][]int{{2}, long[:400]}), build(5, 2, 400, func(i, j int) int { return 2*truth(i == 0 && j == 0) - i }))
	expect(t, "Of 400 rows", field.Of(5, many[:400]), build(5, 400, 1, func(int, int) int { return 1 }))
	expect(t, "Of 400 rows and columns", field.Of(5, slices.Repeat([][]int{long[:400]}, 400)), build(5, 400, 400, func(int, int) int { return 4 }))
	expect(t, "Of 401 columns", field.Of(5, [][]int{{2}, long, {1}}), api.FMat{})
	expect(t, "Of 401 rows", field.Of(5, many), api.FMat{})
	expect(t, "Of 401 rows without columns", field.Of(5, make([][]int, 401)), api.FMat{})
	expect(t, "Of a million rows", field.Of(5, make([][]int, 1000000)), api.FMat{})
}

func TestOne(t *testing.T) {
	for _, p := range somePrimes() {
		for _, n := range []int{0, 1, 2, 3, 17, 400} {
			expect(t, "One", field.One(p, n), build(p, n, n, func(i, j int) int { return truth(i == j) }))
		}
		for _, n := range []int{-1, -2, -400, 401, 1 << 32, math.MaxInt, math.MinInt} {
			expect(t, "One of "+strconv.Itoa(n), field.One(p, n), api.FMat{})
		}
	}
}

func TestMakingMatricesModuloWrongPrimes(t *testing.T) {
	for _, p := range wrongPrimes() {
		for _, n := range []int{0, 1, 2, -1, 401} {
			expect(t, "One", field.One(p, n), api.FMat{})
			expect(t, "Of", field.Of(p, make([][]int, max(n, 0))), api.FMat{})
			expect(t, "Mod", field.Mod(p, api.Mat{Rows: n, Cols: n, E: make([]api.Wide, n*n)}), api.FMat{})
		}
		expect(t, "Of", field.Of(p, [][]int{{1, 2}, {3, 4}}), api.FMat{})
	}
}

// wideNumbers returns numbers of many lengths and both signs, canonical or not.
func wideNumbers() []api.Wide {
	g := generator(8)
	list := []api.Wide{{}, {Neg: true}, {Mag: "\x00"}, {Neg: true, Mag: "\x00\x00"}}
	for size := range 40 {
		mag := make([]byte, size)
		for i := range mag {
			mag[i] = byte(g.next() >> 24)
		}
		for _, text := range []string{string(mag), "\x00" + string(mag), strings.Repeat("\x00", 9) + string(mag), strings.Repeat("\xff", size), "\x01" + strings.Repeat("\x00", size)} {
			list = append(list, api.Wide{Mag: text}, api.Wide{Neg: true, Mag: text})
		}
	}
	long := strings.Repeat("\x01\x02\x03\x05\x08\x0d", 50000)
	return append(list, api.Wide{Mag: long}, api.Wide{Neg: true, Mag: "\x00" + long})
}

func wideResidue(a api.Wide, p int) int {
	n := new(big.Int).SetBytes([]byte(a.Mag))
	if a.Neg {
		n.Neg(n)
	}
	return int(n.Mod(n, big.NewInt(int64(p))).Int64())
}

func TestMod(t *testing.T) {
	numbers := wideNumbers()
	old := slices.Clone(numbers)
	for _, p := range somePrimes() {
		want := make([]int, len(numbers))
		for i, n := range numbers {
			want[i] = wideResidue(n, p)
		}
		for start := 0; start+6 <= len(numbers); start += 6 {
			for _, s := range []shape{{2, 3}, {3, 2}, {1, 6}, {6, 1}} {
				got := field.Mod(p, api.Mat{Rows: s.rows, Cols: s.cols, E: numbers[start : start+6]})
				expect(t, "Mod", got, api.FMat{P: p, Rows: s.rows, Cols: s.cols, E: want[start : start+6]})
			}
		}
		last := len(numbers) - 1
		expect(t, "Mod of a long number", field.Mod(p, api.Mat{Rows: 1, Cols: 1, E: numbers[last:]}), api.FMat{P: p, Rows: 1, Cols: 1, E: want[last:]})
	}
	if !slices.Equal(numbers, old) {
		t.Error("Mod changes its argument")
	}
}

func TestModOfSizes(t *testing.T) {
	for _, s := range append(shapes(), shape{201, 7}, shape{400, 400}) {
		elements := make([]api.Wide, s.rows*s.cols)
		for i := range elements {
			elements[i] = api.Wide{Neg: i%2 == 1, Mag: string([]byte{byte(i >> 8), byte(i)})}
		}
		want := build(101, s.rows, s.cols, func(i, j int) int {
			n := (i*s.cols + j) % 65536
			return n - 2*n*((i*s.cols+j)%2)
		})
		expect(t, "Mod", field.Mod(101, api.Mat{Rows: s.rows, Cols: s.cols, E: elements}), want)
	}
	expect(t, "Mod of nothing", field.Mod(3, api.Mat{}), api.FMat{P: 3})
}

func TestModOfWrongNumbersOfElements(t *testing.T) {
	for _, x := range []api.Mat{
		{Rows: 1, Cols: 1},
		{Rows: 2, Cols: 2, E: make([]api.Wide, 3)},
		{Rows: 2, Cols: 2, E: make([]api.Wide, 5)},
		{Rows: 2, E: make([]api.Wide, 2)},
		{Cols: 2, E: make([]api.Wide, 2)},
		{E: make([]api.Wide, 1)},
		{Rows: -1},
		{Cols: -1},
		{Rows: -2, Cols: -2, E: make([]api.Wide, 4)},
		{Rows: 401},
		{Cols: 401},
		{Rows: 401, Cols: 1, E: make([]api.Wide, 401)},
		{Rows: 1, Cols: 401, E: make([]api.Wide, 401)},
		{Rows: 1 << 32, Cols: 1 << 32},
		{Rows: math.MaxInt, Cols: math.MaxInt, E: make([]api.Wide, 1)},
		{Rows: math.MinInt, Cols: math.MinInt},
	} {
		expect(t, "Mod of "+strconv.Itoa(x.Rows)+" x "+strconv.Itoa(x.Cols), field.Mod(5, x), api.FMat{})
	}
}
