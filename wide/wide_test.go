package wide_test

import (
	"math"
	"math/big"
	"strings"
	"testing"

	"cocycle/api"
	"cocycle/wide"
)

// binary is a function of two numbers, with what it is compared with.
type binary struct {
	name string
	call func(a, b api.Wide) api.Wide
	want func(z, a, b *big.Int) *big.Int
}

func binaries() []binary {
	return []binary{
		{"Add", wide.Add, (*big.Int).Add},
		{"Sub", wide.Sub, (*big.Int).Sub},
		{"Mul", wide.Mul, (*big.Int).Mul},
	}
}

// P1.1

func TestFrom(t *testing.T) {
	if a := wide.From(-300); a != (api.Wide{Neg: true, Mag: "\x01\x2c"}) {
		t.Errorf("From(-300): %#v", a)
	}
	if a := wide.From(0); a != (api.Wide{}) {
		t.Errorf("From(0): %#v", a)
	}
	for _, v := range values() {
		if v.IsInt64() {
			equal(t, wide.From(int(v.Int64())), v, "From", v)
		}
	}
	for n := -70000; n <= 70000; n += 7 {
		equal(t, wide.From(n), big.NewInt(int64(n)), "From", n)
	}
}

func TestInt(t *testing.T) {
	for _, v := range values() {
		want := 0
		if v.IsInt64() {
			want = int(v.Int64())
		}
		for _, a := range forms(v) {
			if n, ok := wide.Int(a); n != want || ok != v.IsInt64() {
				t.Errorf("Int(%#v): %d, %v", a, n, ok)
			}
		}
	}
}

func TestIntLimits(t *testing.T) {
	one := big.NewInt(1)
	least, most := big.NewInt(math.MinInt64), big.NewInt(math.MaxInt64)
	for _, x := range []struct {
		v    *big.Int
		want int
		ok   bool
	}{
		{least, math.MinInt, true},
		{new(big.Int).Sub(least, one), 0, false},
		{new(big.Int).Neg(most), -math.MaxInt, true},
		{most, math.MaxInt, true},
		{new(big.Int).Add(most, one), 0, false},
		{new(big.Int).Lsh(one, 64), 0, false},
		{new(big.Int).Neg(new(big.Int).Lsh(one, 64)), 0, false},
		{new(big.Int).Lsh(one, 4000), 0, false},
	} {
		for _, a := range forms(x.v) {
			if n, ok := wide.Int(a); n != x.want || ok != x.ok {
				t.Errorf("Int(%#v): %d, %v, want %d, %v", a, n, ok, x.want, x.ok)
			}
		}
	}
}

// P1.2

func TestNeg(t *testing.T) {
	for _, v := range values() {
		for _, a := range forms(v) {
			equal(t, wide.Neg(a), new(big.Int).Neg(v), "Neg", a)
		}
	}
}

func TestAddSubMul(t *testing.T) {
	list := values()
	for _, f := range binaries() {
		for _, v := range list {
			for _, w := range list {
				equal(t, f.call(canonical(v), canonical(w)), f.want(new(big.Int), v, w), f.name, v, w)
			}
		}
	}
}

func TestAddSubMulOfFormsThatAreNotCanonical(t *testing.T) {
	list := values()
	for _, f := range binaries() {
		for i, v := range list {
			w := list[(7*i+3)%len(list)]
			for _, a := range forms(v) {
				for _, b := range append(forms(w), forms(list[0])...) {
					equal(t, f.call(a, b), f.want(new(big.Int), parseForm(a), parseForm(b)), f.name, a, b)
				}
			}
		}
	}
}

// parseForm returns the value of a number that need not be canonical.
func parseForm(a api.Wide) *big.Int {
	n := new(big.Int).SetBytes([]byte(a.Mag))
	if a.Neg {
		n.Neg(n)
	}
	return n
}

func TestAddSubMulOfLongNumbers(t *testing.T) {
	g := generator(2)
	for round := range 60 {
		v, w := g.number(1+g.below(3000)), g.number(1+g.below(3000))
		if round%3 == 0 {
			v, w = g.withSign(g.extreme(1+g.below(200), 64)), g.withSign(g.extreme(1+g.below(200), 64))
		}
		for _, f := range binaries() {
			equal(t, f.call(canonical(v), canonical(w)), f.want(new(big.Int), v, w), f.name, v, w)
		}
	}
}

func TestMulExample(t *testing.T) {
	a := wide.From(1 << 40)
	if p := wide.Mul(a, a); p != (api.Wide{Mag: "\x01" + strings.Repeat("\x00", 10)}) {
		t.Errorf("2^40 * 2^40: %#v", p)
	}
}

// P1.3

// checkQuo compares a quotient with the one of the library's division, whose remainder is not negative either.
func checkQuo(t *testing.T, a, b api.Wide) {
	t.Helper()
	v, w := parseForm(a), parseForm(b)
	q, r, ok := wide.Quo(a, b)
	if !ok {
		t.Fatalf("Quo(%v, %v): false", v, w)
	}
	wantQ, wantR := new(big.Int).DivMod(v, w, new(big.Int))
	equal(t, q, wantQ, "quotient", v, w)
	equal(t, r, wantR, "remainder", v, w)
}

func TestQuo(t *testing.T) {
	list := values()
	for _, v := range list {
		for _, w := range list {
			if w.Sign() != 0 {
				checkQuo(t, canonical(v), canonical(w))
			}
		}
	}
}

func TestQuoOfFormsThatAreNotCanonical(t *testing.T) {
	list := values()
	for i, v := range list {
		w := list[1+(5*i)%(len(list)-1)]
		for _, a := range append(forms(v), forms(list[0])...) {
			for _, b := range forms(w) {
				checkQuo(t, a, b)
			}
		}
	}
}

func TestQuoByZero(t *testing.T) {
	for _, v := range values() {
		for _, b := range forms(new(big.Int)) {
			if q, r, ok := wide.Quo(canonical(v), b); ok || q != (api.Wide{}) || r != (api.Wide{}) {
				t.Errorf("Quo(%v, %#v): %#v, %#v, %v", v, b, q, r, ok)
			}
		}
	}
}

// TestQuoOfProducts divides numbers close to multiples of the divisor, for digits of several lengths.
func TestQuoOfProducts(t *testing.T) {
	g := generator(3)
	for _, wordBits := range []int{8, 16, 32, 64} {
		for range 4000 {
			b := g.extreme(1+g.below(5), wordBits)
			if b.Sign() == 0 {
				continue
			}
			a := new(big.Int).Mul(b, g.extreme(1+g.below(5), wordBits))
			for _, d := range []*big.Int{new(big.Int), big.NewInt(-1), new(big.Int).Sub(b, big.NewInt(1)), g.extreme(2, wordBits)} {
				checkQuo(t, canonical(g.withSign(new(big.Int).Add(a, d))), canonical(g.withSign(b)))
			}
		}
	}
}

func TestQuoOfLongNumbers(t *testing.T) {
	g := generator(4)
	for range 60 {
		v, w := g.number(1+g.below(3000)), g.number(1+g.below(2000))
		if w.Sign() != 0 {
			checkQuo(t, canonical(v), canonical(w))
		}
	}
}

func TestQuoExamples(t *testing.T) {
	for _, x := range [][4]int{{-7, 2, -4, 1}, {7, -2, -3, 1}, {-7, -2, 4, 1}, {7, 2, 3, 1}, {-6, 2, -3, 0}, {-6, -2, 3, 0}, {0, -5, 0, 0}, {-1, 5, -1, 4}, {-1, -5, 1, 4}, {math.MinInt, 1, math.MinInt, 0}} {
		q, r, ok := wide.Quo(wide.From(x[0]), wide.From(x[1]))
		if q != wide.From(x[2]) || r != wide.From(x[3]) || !ok {
			t.Errorf("Quo(%d, %d): %s, %s, %v", x[0], x[1], wide.Text(q), wide.Text(r), ok)
		}
	}
	q, r, ok := wide.Quo(wide.From(math.MinInt), wide.From(-1))
	equal(t, q, new(big.Int).Lsh(big.NewInt(1), 63), "quotient", math.MinInt, -1)
	if r != (api.Wide{}) || !ok {
		t.Errorf("Quo(-2^63, -1): %s, %v", wide.Text(r), ok)
	}
}

// P1.4

// checkGcd checks that the results of Gcd are canonical and what P1.4 says of them, which determines them.
func checkGcd(t *testing.T, a, b api.Wide) {
	t.Helper()
	v, w := parseForm(a), parseForm(b)
	g, x, y := wide.Gcd(a, b)
	wantG := new(big.Int).GCD(nil, nil, new(big.Int).Abs(v), new(big.Int).Abs(w))
	equal(t, g, wantG, "Gcd", v, w)
	if w.Sign() == 0 {
		equal(t, x, big.NewInt(int64(v.Sign())), "x of Gcd", v, w)
		equal(t, y, new(big.Int), "y of Gcd", v, w)
		return
	}
	vx, wy := parseForm(x), parseForm(y)
	equal(t, x, vx, "x of Gcd", v, w)
	equal(t, y, wy, "y of Gcd", v, w)
	most := new(big.Int).Quo(new(big.Int).Abs(w), wantG)
	if vx.Sign() < 0 || vx.Cmp(most) >= 0 {
		t.Fatalf("Gcd(%v, %v): x is %v", v, w, vx)
	}
	total := new(big.Int).Mul(vx, v)
	if total.Add(total, wy.Mul(wy, w)).Cmp(wantG) != 0 {
		t.Fatalf("Gcd(%v, %v): x a + y b is %v", v, w, total)
	}
}

func TestGcd(t *testing.T) {
	list := values()
	for _, v := range list {
		for _, w := range list {
			checkGcd(t, canonical(v), canonical(w))
		}
	}
}

func TestGcdOfSmallNumbers(t *testing.T) {
	for a := -40; a <= 40; a++ {
		for b := -40; b <= 40; b++ {
			checkGcd(t, wide.From(a), wide.From(b))
		}
	}
}

func TestGcdOfFormsThatAreNotCanonical(t *testing.T) {
	list := values()
	for i, v := range list {
		w := list[(11*i+5)%len(list)]
		for _, a := range append(forms(v), forms(list[0])...) {
			for _, b := range append(forms(w), forms(list[0])...) {
				checkGcd(t, a, b)
			}
		}
	}
}

// TestGcdWithCommonFactors takes numbers that have a long divisor in common.
func TestGcdWithCommonFactors(t *testing.T) {
	g := generator(5)
	for range 300 {
		common := g.number(1 + g.below(60))
		v := new(big.Int).Mul(common, g.number(1+g.below(60)))
		w := new(big.Int).Mul(common, g.number(1+g.below(60)))
		checkGcd(t, canonical(v), canonical(w))
		checkGcd(t, canonical(v), canonical(common))
		checkGcd(t, canonical(common), canonical(v))
	}
}

func TestGcdExamples(t *testing.T) {
	for _, c := range [][5]int{{-12, 18, 6, 1, 1}, {0, -5, 5, 0, -1}, {-4, 0, 4, -1, 0}, {4, 0, 4, 1, 0}, {0, 0, 0, 0, 0}, {0, 5, 5, 0, 1}, {5, 5, 5, 0, 1}, {5, -5, 5, 0, -1}, {7, 1, 1, 0, 1}, {7, -1, 1, 0, -1}, {1, 7, 1, 1, 0}, {-1, 7, 1, 6, 1}} {
		g, x, y := wide.Gcd(wide.From(c[0]), wide.From(c[1]))
		if g != wide.From(c[2]) || x != wide.From(c[3]) || y != wide.From(c[4]) {
			t.Errorf("Gcd(%d, %d): %s with %s and %s", c[0], c[1], wide.Text(g), wide.Text(x), wide.Text(y))
		}
	}
}

// P1.5

func TestSign(t *testing.T) {
	for _, v := range values() {
		for _, a := range forms(v) {
			if s := wide.Sign(a); s != v.Sign() {
				t.Errorf("Sign(%#v): %d", a, s)
			}
		}
	}
}

func TestCmp(t *testing.T) {
	list := values()
	for i, v := range list {
		for j, w := range list {
			a, b := canonical(v), canonical(w)
			if (i+j)%3 == 0 { // the other forms in turn
				a, b = forms(v)[j%5], forms(w)[i%5]
			}
			if c := wide.Cmp(a, b); c != v.Cmp(w) {
				t.Errorf("Cmp(%v, %v): %d", v, w, c)
			}
		}
		for _, a := range forms(v) {
			for _, b := range forms(v) {
				if c := wide.Cmp(a, b); c != 0 {
					t.Errorf("Cmp(%#v, %#v): %d", a, b, c)
				}
			}
		}
	}
}

// P1, R4

// TestAnyArguments calls all functions with numbers of any bytes, twice: no call panics, and the results are the same and canonical.
func TestAnyArguments(t *testing.T) {
	var list []api.Wide
	for _, mag := range []string{"", "\x00", "\x01", "\xff", "\x00\xff", "abc", "-12", strings.Repeat("\x00", 1000), strings.Repeat("\xff", 1000), strings.Repeat("\x00", 100) + strings.Repeat("x", 100)} {
		list = append(list, api.Wide{Mag: mag}, api.Wide{Neg: true, Mag: mag})
	}
	for _, a := range list {
		for _, b := range list {
			first, second := allResults(a, b), allResults(a, b)
			for i := range first {
				equal(t, first[i], parseForm(first[i]), "a result", i, a, b)
				if first[i] != second[i] {
					t.Errorf("result %d of %#v and %#v: %#v, then %#v", i, a, b, first[i], second[i])
				}
			}
		}
	}
}

// allResults returns the results of all functions for two numbers.
func allResults(a, b api.Wide) []api.Wide {
	n, _ := wide.Int(a)
	q, r, _ := wide.Quo(a, b)
	g, x, y := wide.Gcd(a, b)
	p, _ := wide.Parse(a.Mag)
	z, _ := wide.Parse(wide.Text(a))
	return []api.Wide{wide.From(n), wide.Neg(a), wide.Add(a, b), wide.Sub(a, b), wide.Mul(a, b), q, r, g, x, y, wide.From(wide.Sign(a)), wide.From(wide.Cmp(a, b)), p, z}
}
