package cells_test

import (
	"math"
	"slices"
	"testing"

	"cocycle/api"
	"cocycle/cells"
)

// P6.8

func TestSimplicial(t *testing.T) {
	expect(t, "Simplicial of 0 1 2", cells.Simplicial([][]int{{0, 1, 2}}), triangle())
	expect(t, "Simplicial of nothing", cells.Simplicial(nil), api.Complex{})
	expect(t, "Simplicial of empty lists", cells.Simplicial([][]int{{}, nil}), api.Complex{})
	expect(t, "Simplicial of a number", cells.Simplicial([][]int{{math.MaxInt}}), points(1))
	expect(t, "Simplicial of 10 2", cells.Simplicial([][]int{{10, 2}, {3}}), with(points(3), cell(4, 1, -1, 3)))
	expect(t, "Simplicial of parts", cells.Simplicial([][]int{{2, 0}, {1}, {1, 2, 0, 0, 1}, {0, 1}}), triangle())
	for _, l := range [][][]int{
		{{0, 1, 2, 3, 4, 5, 6, 7, 8}}, {{8, 7, 6, 5, 4, 3, 2, 1, 0, 8, 0, 4}}, {{5, 300, 1, 42}, {300, 5, 7}, {0}, {1, 0}}, {{1 << 40, 3}, {1<<40 + 1, 3}, {3, 1, 0}},
		{{math.MaxInt, math.MaxInt - 1, 0}, {1, math.MaxInt}}, {{1, 2}, {2, 3}, {3, 1}, {1, 2, 3, 4, 5}, {5, 4, 9}}, {{9, 10, 11, 12, 13, 14, 15, 16, 17}, {100, 20, 3}},
	} {
		expect(t, "Simplicial", cells.Simplicial(l), simplices(l))
	}
}

func TestSimplicialOfRandomSets(t *testing.T) {
	g := generator(51)
	for range 300 {
		var l [][]int
		for range g.below(7) {
			var numbers []int
			for range g.below(7) {
				numbers = append(numbers, g.below(9)*g.from(1, 3))
			}
			l = append(l, numbers)
		}
		got := cells.Simplicial(l)
		expect(t, "Simplicial", got, simplices(l))
		shuffle(&g, l)
		for _, numbers := range l {
			shuffle(&g, numbers)
		}
		expect(t, "Simplicial in another order", cells.Simplicial(append(l, l...)), got)
	}
}

func TestSimplicialLeavesOut(t *testing.T) {
	ten := []int{0, 1, 2, 3, 4, 5, 6, 7, 8, 9}
	for _, x := range [][]int{{-1}, {-1, 5}, {0, 1, -1}, {5, math.MinInt, 6}, ten, append(slices.Clone(ten), -1), append([]int{-1}, ten...), slices.Concat(ten, ten, ten)} {
		expect(t, "Simplicial of what is left out", cells.Simplicial([][]int{x}), api.Complex{})
		expect(t, "Simplicial of others too", cells.Simplicial([][]int{x, {0, 1, 2}, x}), triangle())
	}
	nine := slices.Repeat([]int{20, 30, 40, 50, 60, 70, 80, 90, 10}, 1000)
	expect(t, "Simplicial of 9 numbers, often", cells.Simplicial([][]int{nine, {-5, 1}, append(nine, 95)}), simplices([][]int{{1, 2, 3, 4, 5, 6, 7, 8, 9}}))
}

func TestSimplicialOfManyCells(t *testing.T) {
	var sets, vertices [][]int
	for i := range 7 { // 7 * 511 = 3577 cells
		var numbers []int
		for k := range 9 {
			numbers = append(numbers, 1000*i+k)
		}
		sets = append(sets, numbers)
	}
	for i := range 4001 {
		vertices = append(vertices, []int{1000000 - i})
	}
	expect(t, "Simplicial of 4000 vertices", cells.Simplicial(vertices[:4000]), points(4000))
	expect(t, "Simplicial of 4001 vertices", cells.Simplicial(vertices), api.Complex{})
	expect(t, "Simplicial of 4000 vertices, twice", cells.Simplicial(slices.Concat(vertices[:4000], vertices[:4000])), points(4000))
	most := append(sets, vertices[:423]...)
	expect(t, "Simplicial of 4000 cells", cells.Simplicial(most), simplices(most))
	expect(t, "Simplicial of 4000 cells, one of them again", cells.Simplicial(append(most, []int{7})), simplices(most))
	expect(t, "Simplicial of 4001 cells", cells.Simplicial(append(most, []int{500})), api.Complex{})
	expect(t, "Simplicial of 4001 cells, the last one an edge", cells.Simplicial(append(most, []int{7, 1007})), api.Complex{})
	expect(t, "Simplicial of far more cells", cells.Simplicial(append(sets, vertices...)), api.Complex{})
}

// P6.9

func TestProductOfEdges(t *testing.T) {
	edge := cells.Simplicial([][]int{{0, 1}})
	want := with(points(2), cell(3, 1, -1, 2), cell(4, 0), cell(5, 0), cell(6, 1, -4, 5), cell(7, 1, -1, 4), cell(8, 1, -2, 5), cell(9, 2, -3, 6, 7, -8))
	expect(t, "Product of edges", cells.Product(edge, edge), want)
}

func TestProduct(t *testing.T) {
	g := generator(52)
	list := []api.Complex{{}, points(1), points(4), moved(points(1), 77), triangle(), polygon(2), polygon(5), ball(1), ball(3), ball(4), projectivePlane(), simplices([][]int{{0, 1, 2, 3, 4}})}
	for _, a := range list {
		for _, b := range list {
			got := cells.Product(a, b)
			expect(t, "Product of "+show(a)+" and "+show(b), got, theProduct(a, b))
			expectRight(t, "a product", got)
			expect(t, "Product of shuffled complexes", cells.Product(g.shuffled(a), g.shuffled(b)), got)
			expect(t, "Product of moved complexes", cells.Product(moved(a, 1000), moved(b, 5)), got)
		}
	}
}

func TestProductOfComplexesThatAreNotRight(t *testing.T) {
	for _, c := range wrongComplexes() {
		if _, e := theError(c); e == api.OK {
			continue
		}
		for _, other := range []api.Complex{{}, points(1), triangle(), c} {
			expect(t, "Product with a complex that is not right", cells.Product(c, other), api.Complex{})
			expect(t, "Product with a complex that is not right", cells.Product(other, c), api.Complex{})
		}
	}
}

func TestProductsThatAreNotRight(t *testing.T) {
	for _, x := range []struct {
		name    string
		a, b    api.Complex
		isRight bool
	}{
		{"8 dimensions", ball(4), ball(4), true}, {"8 and 0 dimensions", ball(8), points(2), true}, {"9 dimensions", ball(8), ball(1), false}, {"10 dimensions", ball(5), ball(5), false},
		{"64 sides", polygon(62), ball(1), true}, {"65 sides", polygon(63), ball(1), false}, {"64 and 4 sides", polygon(64), polygon(4), false}, {"64 and 0 sides", polygon(64), points(3), true},
		{"4000 cells", points(50), points(80), true}, {"4001 cells, 4001 and 1", points(4001), points(1), false}, {"4015 cells", points(73), points(55), false}, {"4032 cells", points(64), points(63), false},
		{"4000 and 0 cells", points(4000), api.Complex{}, true}, {"4000 and 1 cells", points(1), points(4000), true}, {"16000000 cells", points(4000), points(4000), false},
	} {
		got, other := cells.Product(x.a, x.b), cells.Product(x.b, x.a)
		if !x.isRight {
			expect(t, "Product of "+x.name, got, api.Complex{})
			expect(t, "Product of "+x.name+", the other way", other, api.Complex{})
			continue
		}
		expectRight(t, "a product of "+x.name, got)
		expectRight(t, "a product of "+x.name+", the other way", other)
		if count := len(x.a.Cells) * len(x.b.Cells); len(got.Cells) != count || len(other.Cells) != count {
			t.Errorf("Product of %s: %d cells, the other way %d", x.name, len(got.Cells), len(other.Cells))
		}
	}
}
