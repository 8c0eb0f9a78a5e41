package matrix

import (
	"cocycle/api"
	"cocycle/wide"
)

// estimate is what residues tell of integers: the values are known modulo an odd number, and have the least absolute values possible. They are right as soon as this number exceeds the doubles of the absolute values of the integers.
type estimate struct {
	modulus api.Wide
	values  []api.Wide
}

// newEstimate returns the estimate of so many integers of which nothing is known.
func newEstimate(count int) estimate {
	return estimate{wide.From(1), make([]api.Wide, count)}
}

// refine adds the residues modulo a further prime, and reports whether they are news.
func (e *estimate) refine(m modulus, residues []uint64) (changed bool) {
	inverse := m.inverse(m.residue(e.modulus))
	e.values = combine(e.values, residues, func(value api.Wide, residue uint64) api.Wide {
		digit := m.rest((residue + m.prime - m.residue(value)) * inverse)
		if digit == 0 {
			return value
		}
		changed = true
		return wide.Add(value, wide.Mul(m.balance(digit), e.modulus))
	})
	e.modulus = wide.Mul(e.modulus, wide.From(int(m.prime)))
	return changed
}
