package wide_test

import (
	"math"
	"math/big"
	"strconv"
	"strings"
	"testing"

	"cocycle/api"
	"cocycle/wide"
)

// P1.6

func TestText(t *testing.T) {
	for _, v := range values() {
		for _, a := range forms(v) {
			if s := wide.Text(a); s != v.String() {
				t.Errorf("Text(%#v): %q, want %v", a, s, v)
			}
		}
	}
	for _, n := range []int{0, 7, -7, 10, -100, math.MaxInt, math.MinInt} {
		if s := wide.Text(wide.From(n)); s != strconv.Itoa(n) {
			t.Errorf("Text of %d: %s", n, s)
		}
	}
}

// TestTextOfPowers writes numbers with long rows of zeros and nines.
func TestTextOfPowers(t *testing.T) {
	for k := range 130 {
		zeros := "1" + strings.Repeat("0", k)
		n := canonical(parse(t, zeros))
		if s := wide.Text(n); s != zeros {
			t.Errorf("Text of 10^%d: %s", k, s)
		}
		if s := wide.Text(wide.Neg(n)); s != "-"+zeros {
			t.Errorf("Text of -10^%d: %s", k, s)
		}
		nines := strings.Repeat("9", k+1)
		if s := wide.Text(canonical(parse(t, nines))); s != nines {
			t.Errorf("Text of %s: %s", nines, s)
		}
	}
}

func TestTextAndParseOfLongNumbers(t *testing.T) {
	g := generator(6)
	for range 40 {
		v := g.number(1 + g.below(4000))
		if s := wide.Text(canonical(v)); s != v.String() {
			t.Fatalf("Text: %s, want %v", s, v)
		}
		a, ok := wide.Parse(v.String())
		equal(t, a, v, "Parse", v)
		if !ok {
			t.Fatalf("Parse(%v): false", v)
		}
	}
}

func TestParse(t *testing.T) {
	for _, v := range values() {
		size := new(big.Int).Abs(v).String()
		for _, zeros := range []int{0, 1, 2, 18, 19, 20, 45} {
			sign := ""
			if v.Sign() < 0 {
				sign = "-"
			}
			s := sign + strings.Repeat("0", zeros) + size
			a, ok := wide.Parse(s)
			equal(t, a, v, "Parse", s)
			if !ok {
				t.Errorf("Parse(%q): false", s)
			}
		}
	}
}

func TestParseOfZeros(t *testing.T) {
	for _, s := range []string{"0", "-0", "000", "-000", strings.Repeat("0", 1000), "-" + strings.Repeat("0", 1000)} {
		if a, ok := wide.Parse(s); a != (api.Wide{}) || !ok {
			t.Errorf("Parse(%q): %#v, %v", s, a, ok)
		}
	}
}

func TestParseExamples(t *testing.T) {
	if a, ok := wide.Parse("-007"); a != wide.From(-7) || !ok {
		t.Errorf("Parse of -007: %s, %v", wide.Text(a), ok)
	}
}

func TestParseOfTextsThatDenoteNoNumber(t *testing.T) {
	long := strings.Repeat("1234567890", 10)
	for _, s := range []string{"", "-", "--", "--1", "-+1", "+", "+1", "+-1", "1-", "1-2", "-1-", "0-0", "1x", "x", "x1", "0x10", "1e3", "1.0", "1.", ".5", "1,000", "1_000", " ", " 1", "1 ", "- 1", "1 2", "\t1", "1\n", "\x00", "1\x00", "\x001", "/", ":", "1/", "1:", "-/", "-:", "\xb2", "\x80", "\xff", "1\xff", "٣", "1٣", "१", "①", "−1", "NaN", "inf", long + "x", "x" + long, long + "-", long[:50] + "-" + long, long[:50] + " " + long, "-" + long + "+"} {
		if a, ok := wide.Parse(s); a != (api.Wide{}) || ok {
			t.Errorf("Parse(%q): %#v, %v", s, a, ok)
		}
	}
	for b := range 256 { // each byte alone, and between digits
		if digit := b >= '0' && b <= '9'; !digit {
			for _, s := range []string{string([]byte{byte(b)}), "12" + string([]byte{byte(b)}) + "34"} {
				if a, ok := wide.Parse(s); a != (api.Wide{}) || ok {
					t.Errorf("Parse(%q): %#v, %v", s, a, ok)
				}
			}
		}
	}
}

// P1.7

func TestParseUndoesText(t *testing.T) {
	for _, v := range values() {
		for _, a := range forms(v) {
			b, ok := wide.Parse(wide.Text(a))
			equal(t, b, v, "Parse of Text", a)
			if !ok {
				t.Errorf("Parse of Text of %v: false", v)
			}
		}
	}
}

func TestRing(t *testing.T) {
	zero, one := api.Wide{}, wide.From(1)
	list := values()
	for i, v := range list {
		a, b, c := canonical(v), canonical(list[(13*i+1)%len(list)]), canonical(list[(29*i+2)%len(list)])
		for law, sides := range map[string][2]api.Wide{
			"a + b = b + a":             {wide.Add(a, b), wide.Add(b, a)},
			"(a + b) + c = a + (b + c)": {wide.Add(wide.Add(a, b), c), wide.Add(a, wide.Add(b, c))},
			"a + 0 = a":                 {wide.Add(a, zero), a},
			"a + -a = 0":                {wide.Add(a, wide.Neg(a)), zero},
			"a b = b a":                 {wide.Mul(a, b), wide.Mul(b, a)},
			"(a b) c = a (b c)":         {wide.Mul(wide.Mul(a, b), c), wide.Mul(a, wide.Mul(b, c))},
			"a 1 = a":                   {wide.Mul(a, one), a},
			"a 0 = 0":                   {wide.Mul(a, zero), zero},
			"a (b + c) = a b + a c":     {wide.Mul(a, wide.Add(b, c)), wide.Add(wide.Mul(a, b), wide.Mul(a, c))},
			"(a - b) + b = a":           {wide.Add(wide.Sub(a, b), b), a},
		} {
			if sides[0] != sides[1] {
				t.Errorf("%s fails for a = %s, b = %s, c = %s", law, wide.Text(a), wide.Text(b), wide.Text(c))
			}
		}
	}
}
