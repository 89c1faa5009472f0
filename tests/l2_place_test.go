package tests

import (
	"math"
	"slices"
	"testing"

	"loop.example/arraylanguage/impl"
)

// otherPlaces are lists that are not places of a shape.
func otherPlaces(shape []int) [][]int {
	inside := make([]int, len(shape))
	list := [][]int{append(slices.Clone(inside), 0)}
	if len(shape) > 0 {
		list = append(list, nil, inside[1:])
	}
	for k, length := range shape {
		for _, index := range []int{-1, length, length + 1, math.MaxInt, math.MinInt} {
			place := slices.Clone(inside)
			place[k] = index
			list = append(list, place)
		}
	}
	return list
}

func TestP7PlacesHaveNumbers(t *testing.T) {
	validShapes(func(shape []int) {
		for n, place := range placesIn(shape) {
			if got := impl.OffsetOf(shape, place); got != n {
				t.Fatalf("OffsetOf(%v, %v) = %d, want %d", shape, place, got, n)
			}
			got, ok := impl.PlaceOf(shape, n)
			if !ok || !slices.Equal(got, place) {
				t.Fatalf("PlaceOf(%v, %d) = %v, %v, want %v", shape, n, got, ok, place)
			}
		}
	})
}

func TestP7NoSuchPlace(t *testing.T) {
	shapes := [][]int{nil, {0}, {1}, {5}, {60}, {2, 3}, {2, 0}, {0, 2}, {2, 3, 4}, {2, 0, 4}, {60, 60, 0}}
	for _, shape := range shapes {
		for _, place := range otherPlaces(shape) {
			if got := impl.OffsetOf(shape, place); got != -1 {
				t.Errorf("OffsetOf(%v, %v) = %d", shape, place, got)
			}
		}
	}
}

// An index that is too great may have the number of another place.
func TestP7IndicesStayInTheirAxis(t *testing.T) {
	for _, place := range [][]int{{0, 3}, {1, -1}, {0, 5}, {2, -1}, {-1, 3}} {
		if got := impl.OffsetOf([]int{2, 3}, place); got != -1 {
			t.Errorf("OffsetOf([2 3], %v) = %d", place, got)
		}
	}
}

func TestP7AxesWithoutPlaces(t *testing.T) {
	validShapes(func(shape []int) {
		if product(shape) != 0 {
			return
		}
		if got := impl.OffsetOf(shape, make([]int, len(shape))); got != -1 {
			t.Fatalf("OffsetOf(%v, zeros) = %d", shape, got)
		}
	})
}

func TestP7InvalidShapesHaveNoPlaces(t *testing.T) {
	for _, shape := range invalidShapes() {
		for _, index := range []int{0, -1, 1} {
			place := slices.Repeat([]int{index}, len(shape))
			if got := impl.OffsetOf(shape, place); got != -1 {
				t.Errorf("OffsetOf(%v, %v) = %d", shape, place, got)
			}
		}
	}
}

func TestP8NumbersHavePlaces(t *testing.T) {
	validShapes(func(shape []int) {
		for n := range product(shape) {
			place, ok := impl.PlaceOf(shape, n)
			if !ok || impl.OffsetOf(shape, place) != n {
				t.Fatalf("PlaceOf(%v, %d) = %v, %v with the number %d", shape, n, place, ok, impl.OffsetOf(shape, place))
			}
		}
		for _, n := range []int{product(shape), product(shape) + 1, -1, math.MaxInt, math.MinInt} {
			if place, ok := impl.PlaceOf(shape, n); ok || len(place) != 0 {
				t.Fatalf("PlaceOf(%v, %d) = %v, %v", shape, n, place, ok)
			}
		}
	})
}

func TestP8InvalidShapesHaveNoNumbers(t *testing.T) {
	for _, shape := range invalidShapes() {
		for _, n := range []int{0, 1, -1, 60, math.MaxInt, math.MinInt} {
			if place, ok := impl.PlaceOf(shape, n); ok || len(place) != 0 {
				t.Errorf("PlaceOf(%v, %d) = %v, %v", shape, n, place, ok)
			}
		}
	}
}

func TestP8NoAxesHaveOnePlace(t *testing.T) {
	for _, shape := range [][]int{nil, {}} {
		if place, ok := impl.PlaceOf(shape, 0); !ok || len(place) != 0 {
			t.Errorf("PlaceOf(no axes, 0) = %v, %v", place, ok)
		}
		if n := impl.OffsetOf(shape, []int{}); n != 0 {
			t.Errorf("OffsetOf(no axes) = %d", n)
		}
	}
}

func TestP9TheLastIndexGrowsFirst(t *testing.T) {
	validShapes(func(shape []int) {
		for n := 1; n < product(shape); n++ {
			before, _ := impl.PlaceOf(shape, n-1)
			behind, _ := impl.PlaceOf(shape, n)
			if slices.Compare(before, behind) >= 0 {
				t.Fatalf("in %v, %v follows %v", shape, behind, before)
			}
		}
	})
	if n := impl.OffsetOf([]int{2, 3, 4}, []int{1, 2, 3}); n != 23 {
		t.Errorf("the last place has the number %d", n)
	}
	if place, _ := impl.PlaceOf([]int{2, 3, 4}, 1); !slices.Equal(place, []int{0, 0, 1}) {
		t.Errorf("the place with the number 1 is %v", place)
	}
}

func TestP10NumbersAreAtTheirPlaces(t *testing.T) {
	for _, a := range samples() {
		for i, want := range a.Data {
			place, ok := impl.PlaceOf(a.Shape, i)
			if !ok {
				t.Fatalf("PlaceOf(%v, %d)", a.Shape, i)
			}
			if got, ok := impl.ItemAt(a, place); !ok || got != want {
				t.Errorf("ItemAt(%v, %v) = %d, %v", a, place, got, ok)
			}
		}
		for i, place := range placesIn(a.Shape) {
			if got, ok := impl.ItemAt(a, place); !ok || got != a.Data[i] {
				t.Errorf("ItemAt(%v, %v) = %d, %v", a, place, got, ok)
			}
		}
	}
}

func TestP10NoSuchNumber(t *testing.T) {
	for _, a := range samples() {
		for _, place := range otherPlaces(a.Shape) {
			if got, ok := impl.ItemAt(a, place); ok || got != 0 {
				t.Errorf("ItemAt(%v, %v) = %d, %v", a, place, got, ok)
			}
		}
	}
	for _, a := range invalidArrays() {
		if got, ok := impl.ItemAt(a, make([]int, len(a.Shape))); ok || got != 0 {
			t.Errorf("ItemAt(%v, zeros) = %d, %v", a, got, ok)
		}
	}
}

func TestP11WhatIsPutIsThere(t *testing.T) {
	for _, a := range samples() {
		for i, place := range placesIn(a.Shape) {
			for _, n := range []int{0, 77, -impl.MaxNum, impl.MaxNum, a.Data[i]} {
				b, ok := impl.WithItem(a, place, n)
				if !ok || !impl.ValidArray(b) || !slices.Equal(b.Shape, a.Shape) {
					t.Fatalf("WithItem(%v, %v, %d) = %v, %v", a, place, n, b, ok)
				}
				if got, ok := impl.ItemAt(b, place); !ok || got != n {
					t.Errorf("behind WithItem(%v, %v, %d): %d, %v", a, place, n, got, ok)
				}
				if back, ok := impl.WithItem(b, place, a.Data[i]); !ok || !equal(back, a) {
					t.Errorf("put back into %v at %v: %v, %v", b, place, back, ok)
				}
			}
		}
	}
}

func TestP11NothingIsPut(t *testing.T) {
	for _, a := range samples() {
		for _, place := range otherPlaces(a.Shape) {
			if b, ok := impl.WithItem(a, place, 5); ok || !isZero(b) {
				t.Errorf("WithItem(%v, %v, 5) = %v, %v", a, place, b, ok)
			}
		}
		for _, place := range placesIn(a.Shape) {
			for _, n := range beyond() {
				if b, ok := impl.WithItem(a, place, n); ok || !isZero(b) {
					t.Errorf("WithItem(%v, %v, %d) = %v, %v", a, place, n, b, ok)
				}
			}
		}
	}
}

// A number that is put does not make an array valid that was not, not even in
// place of the number that is not allowed.
func TestP11InvalidArraysStayInvalid(t *testing.T) {
	for _, a := range invalidArrays() {
		places := [][]int{make([]int, len(a.Shape))}
		if len(a.Data) > 0 && len(a.Data) == product(a.Shape) {
			places = append(places, placesIn(a.Shape)...)
		}
		for _, place := range places {
			if b, ok := impl.WithItem(a, place, 5); ok || !isZero(b) {
				t.Errorf("WithItem(%v, %v, 5) = %v, %v", a, place, b, ok)
			}
		}
	}
}

func TestP12OtherNumbersStay(t *testing.T) {
	for _, a := range samples() {
		for i, place := range placesIn(a.Shape) {
			want := cloned(a)
			want.Data[i] = 123456
			if b, ok := impl.WithItem(a, place, 123456); !ok || !equal(b, want) {
				t.Errorf("WithItem(%v, %v, 123456) = %v, %v", a, place, b, ok)
			}
		}
	}
}

func TestP12TheArgumentsStay(t *testing.T) {
	for _, sample := range samples() {
		a := impl.Array{Shape: roomy(sample.Shape), Data: roomy(sample.Data)}
		shape, data := slices.Clone(a.Shape[:cap(a.Shape)]), slices.Clone(a.Data[:cap(a.Data)])
		for i, place := range placesIn(a.Shape) {
			kept := slices.Clone(place)
			b, _ := impl.WithItem(a, place, 123456)
			impl.ItemAt(a, place)
			impl.OffsetOf(a.Shape, place)
			if !slices.Equal(place, kept) {
				t.Errorf("the place %v became %v", kept, place)
			}
			found, _ := impl.PlaceOf(a.Shape, i)
			if !slices.Equal(a.Shape[:cap(a.Shape)], shape) || !slices.Equal(a.Data[:cap(a.Data)], data) {
				t.Fatalf("%v became %v", sample, a)
			}
			wantApart(t, "WithItem and PlaceOf", a.Shape, a.Data, place, b.Shape, b.Data, found)
		}
	}
}
