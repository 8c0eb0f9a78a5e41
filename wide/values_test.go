package wide_test

import (
	"fmt"
	"math/big"
	"strings"
	"testing"

	"cocycle/api"
)

// generator makes the same numbers in each run (xorshift).
type generator uint64

func (g *generator) next() uint64 {
	*g ^= *g << 13
	*g ^= *g >> 7
	*g ^= *g << 17
	return uint64(*g)
}

func (g *generator) below(n int) int {
	return int(g.next() % uint64(n))
}

// number returns a number of so many bytes, or less.
func (g *generator) number(size int) *big.Int {
	mag := make([]byte, size)
	for i := range mag {
		mag[i] = byte(g.next() >> 24)
	}
	return g.withSign(new(big.Int).SetBytes(mag))
}

// extreme returns a number of so many digits of wordBits bits, each close to 0, to the half or to the greatest digit: among such numbers are those where carries run far, and where digits of quotients are guessed wrong.
func (g *generator) extreme(digits, wordBits int) *big.Int {
	half := uint64(1) << (wordBits - 1)
	most := half<<1 - 1
	choices := []uint64{0, 1, half - 1, half, half + 1, most - 1, most}
	n := new(big.Int)
	for range digits {
		n.Lsh(n, uint(wordBits))
		n.Add(n, new(big.Int).SetUint64(choices[g.below(len(choices))]))
	}
	return n
}

func (g *generator) withSign(n *big.Int) *big.Int {
	if g.next()>>40&1 == 1 {
		n.Neg(n)
	}
	return n
}

// values returns numbers of both signs, around the places where lengths change: 0, powers of 2 and of 10 and their neighbours, the least and the greatest int, and some without a pattern.
func values() []*big.Int {
	one := big.NewInt(1)
	list := []*big.Int{new(big.Int)}
	add := func(n *big.Int) {
		for _, d := range []*big.Int{new(big.Int).Sub(n, one), n, new(big.Int).Add(n, one)} {
			if d.Sign() != 0 {
				list = append(list, d, new(big.Int).Neg(d))
			}
		}
	}
	for _, n := range []int64{2, 5, 12, 18, 300, 9973} {
		add(big.NewInt(n))
	}
	for _, k := range []uint{8, 16, 24, 31, 32, 48, 55, 56, 62, 63, 64, 65, 96, 127, 128, 192, 256, 321} {
		add(new(big.Int).Lsh(one, k))
	}
	for _, k := range []int64{1, 9, 18, 19, 20, 37, 38, 39, 57, 100} {
		add(new(big.Int).Exp(big.NewInt(10), big.NewInt(k), nil))
	}
	g := generator(1)
	for size := 1; size <= 41; size += 2 {
		list = append(list, g.number(size))
	}
	for digits := 1; digits <= 6; digits++ {
		list = append(list, g.withSign(g.extreme(digits, 8)), g.withSign(g.extreme(digits, 32)), g.withSign(g.extreme(digits, 64)))
	}
	return list
}

// canonical returns the only canonical api.Wide whose value is n.
func canonical(n *big.Int) api.Wide {
	return api.Wide{Neg: n.Sign() < 0, Mag: string(n.Bytes())}
}

// forms returns several api.Wides whose value is n, the canonical one first.
func forms(n *big.Int) []api.Wide {
	a := canonical(n)
	list := []api.Wide{a}
	for _, zeros := range []int{1, 7, 8, 20} {
		list = append(list, api.Wide{Neg: a.Neg, Mag: strings.Repeat("\x00", zeros) + a.Mag})
	}
	if n.Sign() == 0 {
		for _, zeros := range []int{0, 1, 8, 9} {
			list = append(list, api.Wide{Neg: true, Mag: strings.Repeat("\x00", zeros)})
		}
	}
	return list
}

// parse returns the number that a text of the test denotes.
func parse(t *testing.T, s string) *big.Int {
	t.Helper()
	n, ok := new(big.Int).SetString(s, 10)
	if !ok {
		t.Fatalf("the test has a wrong number: %q", s)
	}
	return n
}

// equal fails the test if a result is not the canonical number n.
func equal(t *testing.T, got api.Wide, n *big.Int, call string, arguments ...any) {
	t.Helper()
	if want := canonical(n); got != want {
		t.Fatalf("%s of %s: %#v, want %#v", call, show(arguments...), got, want)
	}
}

// show writes arguments such that the bytes of a number can be read.
func show(arguments ...any) string {
	var list []string
	for _, a := range arguments {
		if n, ok := a.(api.Wide); ok {
			list = append(list, fmt.Sprintf("%#v", n))
		} else {
			list = append(list, fmt.Sprintf("%v", a))
		}
	}
	return strings.Join(list, ", ")
}
