package lattice

import (
	"cocycle/api"
	"cocycle/matrix"
	"cocycle/wide"
)

// Quotient returns the structure of the quotient of the lattice of z by that of b, and true, if both are right and have as many rows, the columns of z are linearly independent, and each column of b belongs to the lattice of z: the factors greater than 1 of the torsion, the rank of the free part, and generators, first those of the torsion.
func Quotient(z, b api.Mat) (torsion []api.Wide, free int, gens api.Mat, ok bool) {
	if !matrix.Right(z) || !matrix.Right(b) || z.Rows != b.Rows {
		return nil, 0, api.Mat{}, false
	}
	inLattice, ok := express(z, b)
	if !ok {
		return nil, 0, api.Mat{}, false
	}
	// If D = U c V for the coefficients c of b, the columns of UI are a basis of all coefficients, and their multiples by the diagonal of D one of those of the lattice of b. A column whose factor is 1 belongs to it.
	s := newSystem(inLattice)
	trivial := s.countOnes()
	for row := trivial; row < s.rank; row++ {
		torsion = append(torsion, s.divisor(row))
	}
	basis, _ := matrix.Part(s.UI, 0, trivial, z.Cols, z.Cols-trivial)
	gens, _ = matrix.Mul(z, basis)
	return torsion, z.Cols - s.rank, gens, true
}

// express returns the coefficients c with z c = b, and true, if the columns of z are linearly independent, and those of b belong to their lattice.
func express(z, b api.Mat) (api.Mat, bool) {
	s := newSystem(z)
	if s.rank < z.Cols {
		return api.Mat{}, false
	}
	coordinates, _, ok := s.coordinates(b)
	if !ok {
		return api.Mat{}, false
	}
	return s.point(coordinates), true
}

// countOnes returns how many elements of the diagonal of D are 1; they are the first ones.
func (s system) countOnes() (count int) {
	for s.divisor(count) == wide.From(1) {
		count++
	}
	return count
}
