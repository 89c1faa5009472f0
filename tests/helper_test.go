package tests

import (
	"math"
	"slices"
	"testing"

	"loop.example/arraylanguage/impl"
)

// beyond are numbers that no array may have.
func beyond() []int {
	return []int{impl.MaxNum + 1, -impl.MaxNum - 1, math.MaxInt, math.MinInt}
}

// equal reports whether two arrays are the same; nil and empty lists are.
func equal(a, b impl.Array) bool {
	return slices.Equal(a.Shape, b.Shape) && slices.Equal(a.Data, b.Data)
}

// isZero reports whether an array is the zero value.
func isZero(a impl.Array) bool {
	return equal(a, impl.Array{})
}

// cloned returns an array in memory of its own.
func cloned(a impl.Array) impl.Array {
	return impl.Array{Shape: slices.Clone(a.Shape), Data: slices.Clone(a.Data)}
}

// product returns the product of lengths.
func product(shape []int) int {
	n := 1
	for _, length := range shape {
		n *= length
	}
	return n
}

// everyShape calls f for each shape of at most MaxRank axes with lengths from
// low to high.
func everyShape(low, high int, f func(shape []int)) {
	f(nil)
	for x := low; x <= high; x++ {
		f([]int{x})
		for y := low; y <= high; y++ {
			f([]int{x, y})
			for z := low; z <= high; z++ {
				f([]int{x, y, z})
			}
		}
	}
}

// validShapes calls f for each valid shape.
func validShapes(f func(shape []int)) {
	everyShape(0, impl.MaxItems, func(shape []int) {
		if product(shape) <= impl.MaxItems {
			f(shape)
		}
	})
}

// invalidShapes are shapes that no array may have.
func invalidShapes() [][]int {
	return [][]int{
		{impl.MaxItems + 1},
		{-1},
		{math.MinInt},
		{math.MaxInt},
		{-1, -1},
		{0, -1},
		{-1, 0},
		{0, impl.MaxItems + 1},
		{impl.MaxItems + 1, 0},
		{2, 31},
		{60, 2},
		{4, 4, 4},
		{1, 1, 1, 1},
		{0, 0, 0, 0},
		{1, 0, 1, 1},
		{math.MaxInt, math.MaxInt, math.MaxInt},
		{1 << 32, 1 << 32},
		{1 << 32, 1 << 32, 0},
	}
}

// placesIn returns all places of a shape, the last index growing first.
func placesIn(shape []int) [][]int {
	places := [][]int{{}}
	for _, length := range shape {
		var longer [][]int
		for _, place := range places {
			for i := range length {
				longer = append(longer, append(slices.Clone(place), i))
			}
		}
		places = longer
	}
	return places
}

// filled returns an array of a valid shape with numbers that are all different.
func filled(shape []int) impl.Array {
	data := make([]int, product(shape))
	for i := range data {
		data[i] = 1000 - 17*i
	}
	return impl.Array{Shape: slices.Clone(shape), Data: data}
}

// samples are valid arrays of every rank.
func samples() []impl.Array {
	list := []impl.Array{
		{Data: []int{impl.MaxNum}},
		{Shape: []int{}, Data: []int{-impl.MaxNum}},
		{Shape: []int{3}, Data: []int{-impl.MaxNum, 0, impl.MaxNum}},
	}
	shapes := [][]int{nil, {0}, {1}, {5}, {impl.MaxItems}, {2, 3}, {3, 2}, {1, 60}, {60, 1},
		{0, 60}, {60, 0}, {0, 0}, {2, 3, 4}, {4, 3, 2}, {1, 1, 1}, {3, 4, 5}, {60, 60, 0}, {0, 60, 60}, {60, 0, 60}}
	for _, shape := range shapes {
		list = append(list, filled(shape))
	}
	return list
}

// invalidArrays are arrays that are not valid.
func invalidArrays() []impl.Array {
	list := []impl.Array{
		{},
		{Data: []int{1, 2}},
		{Shape: []int{0}, Data: []int{1}},
		{Shape: []int{1}},
		{Shape: []int{2}, Data: []int{1}},
		{Shape: []int{2}, Data: []int{1, 2, 3}},
		{Shape: []int{2, 2}, Data: []int{1, 2, 3}},
		{Shape: []int{2, 0}, Data: []int{1, 2}},
		{Shape: []int{-1}},
		{Shape: []int{-1, -1}, Data: []int{1}},
		{Shape: []int{2, 0, 2}, Data: []int{0}},
	}
	for _, shape := range invalidShapes() {
		list = append(list, impl.Array{Shape: shape})
		if n := product(shape); n > 0 && n <= 1000 {
			list = append(list, impl.Array{Shape: shape, Data: make([]int, n)})
		}
	}
	for _, n := range beyond() {
		list = append(list, impl.Array{Data: []int{n}},
			impl.Array{Shape: []int{3}, Data: []int{n, 0, 0}},
			impl.Array{Shape: []int{3}, Data: []int{0, 0, n}},
			impl.Array{Shape: []int{2, 2}, Data: []int{0, 0, n, 0}})
	}
	return list
}

// roomy returns a list with the same numbers and spare capacity, which is full
// of sevens.
func roomy(list []int) []int {
	out := append(slices.Clone(list), 7, 7, 7)
	return out[:len(list)]
}

// wholes returns copies of lists and of their spare capacity.
func wholes(lists [][]int) [][]int {
	var out [][]int
	for _, list := range lists {
		out = append(out, slices.Clone(list[:cap(list)]))
	}
	return out
}

// wantKept fails unless the first lists and their spare capacity are as they
// were (wholes).
func wantKept(t *testing.T, lists, before [][]int) {
	t.Helper()
	for i, kept := range before {
		if !slices.Equal(lists[i][:cap(lists[i])], kept) {
			t.Errorf("%v became %v", kept, lists[i][:cap(lists[i])])
		}
	}
}

// scribble overwrites a list and its spare capacity.
func scribble(list []int) {
	all := list[:cap(list)]
	for i := range all {
		all[i] = -99
	}
}

// wantApart fails unless each list keeps its numbers and its spare capacity
// while another one is overwritten. It leaves the lists as they were.
func wantApart(t *testing.T, what string, lists ...[]int) {
	t.Helper()
	for i, one := range lists {
		before := wholes(lists)
		scribble(one)
		for j, other := range lists {
			if j != i && !slices.Equal(other[:cap(other)], before[j]) {
				t.Errorf("%s: lists %d and %d share memory", what, i, j)
			}
		}
		copy(one[:cap(one)], before[i])
	}
}
