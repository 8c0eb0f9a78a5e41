package wide

import "cocycle/api"

// Gcd returns the greatest common divisor g of a and b, and x and y with g = x a + y b, where x is not negative, and less than the absolute value of b, divided by g (if b is 0, x is the sign of a, and y is 0).
func Gcd(a, b api.Wide) (g, x, y api.Wide) {
	if Sign(b) == 0 {
		return absolute(a), From(Sign(a)), api.Wide{}
	}
	modulus := absolute(b)
	_, rest, _ := Quo(a, modulus)
	g, x = invert(rest, modulus)
	y, _, _ = Quo(Sub(g, Mul(x, a)), b)
	return g, x, y
}

func absolute(a api.Wide) api.Wide {
	return api.Wide{Mag: significant(a.Mag)}
}

// invert returns the greatest common divisor g of a and the modulus, which is greater than a, and the least x that is not negative such that x a is g, but for a multiple of the modulus.
func invert(a, modulus api.Wide) (g, x api.Wide) {
	if n, ok := small(modulus); ok {
		m, _ := small(a)
		divisor, factor := invertSmall(m, n)
		return From(divisor), From(factor)
	}
	old, rest := partsOf(modulus.Mag), partsOf(a.Mag)
	oldFactor, factor := parts(nil), parts{1}
	neg := true // of oldFactor: the signs of the factors alternate
	for len(rest) > 0 {
		quotient, next := divide(old, rest)
		old, rest = rest, next
		oldFactor, factor = factor, sum(oldFactor, product(quotient, factor))
		neg = !neg
	}
	// The last factor, that of the rest 0, is the modulus divided by g.
	_, x, _ = Quo(signed(neg, oldFactor), signed(false, factor))
	return signed(false, old), x
}

// invertSmall is invert for small numbers.
func invertSmall(a, modulus int) (g, x int) {
	old, rest := modulus, a
	oldFactor, factor := 0, 1
	for rest > 0 {
		quotient := old / rest
		old, rest = rest, old-quotient*rest
		oldFactor, factor = factor, oldFactor-quotient*factor
	}
	_, x = quoSmall(oldFactor, factor)
	return old, x
}
