package impl

import (
	"iter"
	"slices"
)

// indices yields the index for each axis, from the first axis on, of the place
// with a number in 0..size-1.
func (l layout) indices(n int) iter.Seq[int] {
	return func(yield func(int) bool) {
		for k, length := range l.shape {
			if !yield(n / l.strides[k] % length) {
				return
			}
		}
	}
}

// offsetIn returns the number of a place of a valid array; -1 if there is no
// such place, or for other arrays.
func offsetIn(a Array, place []int) int {
	if !ValidArray(a) {
		return -1
	}
	return OffsetOf(a.Shape, place)
}

// OffsetOf returns the number of a place.
func OffsetOf(shape []int, place []int) int {
	l, ok := layoutOf(shape)
	if !ok || len(place) != len(shape) {
		return -1
	}
	n := 0
	for k, index := range place {
		if index < 0 || index >= shape[k] {
			return -1
		}
		n += index * l.strides[k]
	}
	return n
}

// PlaceOf returns the place with a number.
func PlaceOf(shape []int, n int) ([]int, bool) {
	l, ok := layoutOf(shape)
	if !ok || n < 0 || n >= l.size {
		return nil, false
	}
	return slices.Collect(l.indices(n)), true
}

// ItemAt returns the number at a place.
func ItemAt(a Array, place []int) (int, bool) {
	at := offsetIn(a, place)
	if at < 0 {
		return 0, false
	}
	return a.Data[at], true
}

// WithItem returns an array with another number at a place.
func WithItem(a Array, place []int, n int) (Array, bool) {
	at := offsetIn(a, place)
	if at < 0 || !isNumber(n) {
		return Array{}, false
	}
	b := copyArray(a)
	b.Data[at] = n
	return b, true
}
