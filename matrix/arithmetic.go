package matrix

import (
	"math/bits"

	"cocycle/api"
	"cocycle/wide"
)

// Add returns a + b, and true, if both are right and have the same numbers of rows and columns.
func Add(a, b api.Mat) (api.Mat, bool) {
	return placeByPlace(a, b, wide.Add)
}

// Sub returns a - b, and true, if both are right and have the same numbers of rows and columns.
func Sub(a, b api.Mat) (api.Mat, bool) {
	return placeByPlace(a, b, wide.Sub)
}

func placeByPlace(a, b api.Mat, operation func(x, y api.Wide) api.Wide) (api.Mat, bool) {
	if !Right(a) || !Right(b) || !sameShape(a, b) {
		return api.Mat{}, false
	}
	return api.Mat{Rows: a.Rows, Cols: a.Cols, E: combine(a.E, b.E, operation)}, true
}

// Mul returns the product of a and b, and true, if both are right, and b has as many rows as a has columns.
func Mul(a, b api.Mat) (api.Mat, bool) {
	if !Right(a) || !Right(b) || a.Cols != b.Rows {
		return api.Mat{}, false
	}
	if product, ok := multiplySmall(a, b); ok {
		return product, true
	}
	return matrixOf(multiply(tableOf(a), tableOf(b), wide.Mul, wide.Add)), true
}

// multiplySmall returns the product, and true, if it can be computed with ints, which takes far less time.
func multiplySmall(a, b api.Mat) (api.Mat, bool) {
	x, lengthOfX := ints(a.E)
	y, lengthOfY := ints(b.E)
	// Then each sum of a.Cols products has a lesser absolute value than 2^63.
	if lengthOfX+lengthOfY+bits.Len(uint(a.Cols)) >= bits.UintSize {
		return api.Mat{}, false
	}
	times := func(x, y int) int { return x * y }
	plus := func(x, y int) int { return x + y }
	product := multiply(table[int]{a.Rows, a.Cols, x}, table[int]{b.Rows, b.Cols, y}, times, plus)
	return api.Mat{Rows: a.Rows, Cols: b.Cols, E: convert(product.elements, wide.From)}, true
}

// ints returns numbers as ints, and the number of bits of the longest one; if one of them is too long, it returns that its length is that of an int.
func ints(list []api.Wide) (numbers []int, length int) {
	numbers = make([]int, len(list))
	for i, x := range list {
		n, ok := wide.Int(x)
		if !ok {
			return nil, bits.UintSize
		}
		numbers[i] = n
		length = max(length, bits.Len(uint(max(n, -n)))) // -n is n for the least int, which has the bits of its absolute value
	}
	return numbers, length
}

// Apply returns the product of a and x, and true, if both are right, and x has as many numbers as a has columns.
func Apply(a api.Mat, x []api.Wide) ([]api.Wide, bool) {
	product, ok := Mul(a, api.Mat{Rows: len(x), Cols: 1, E: x})
	return product.E, ok
}
