package tests

import (
	"math"
	"slices"
	"testing"

	"loop.example/arraylanguage/impl"
)

// checkCounted checks ValidArray, RankOf and SizeOf of an array.
func checkCounted(t *testing.T, a impl.Array, valid bool) {
	t.Helper()
	rank, size := -1, -1
	if valid {
		rank, size = len(a.Shape), len(a.Data)
	}
	if got := impl.ValidArray(a); got != valid {
		t.Fatalf("ValidArray(%v) = %v", a, got)
	}
	if got := impl.RankOf(a); got != rank {
		t.Fatalf("RankOf(%v) = %d, want %d", a, got, rank)
	}
	if got := impl.SizeOf(a); got != size {
		t.Fatalf("SizeOf(%v) = %d, want %d", a, got, size)
	}
}

func TestLimits(t *testing.T) {
	if impl.MaxRank != 3 || impl.MaxItems != 60 || impl.MaxNum != 1000000 {
		t.Error(impl.MaxRank, impl.MaxItems, impl.MaxNum)
	}
}

func TestP1SamplesCanBeCounted(t *testing.T) {
	for _, a := range samples() {
		checkCounted(t, a, true)
	}
}

func TestP1InvalidArraysCannotBeCounted(t *testing.T) {
	for _, a := range invalidArrays() {
		checkCounted(t, a, false)
	}
}

func TestP1EveryShape(t *testing.T) {
	zeros := make([]int, 2*impl.MaxItems)
	everyShape(-1, impl.MaxItems+1, func(shape []int) {
		valid := product(shape) <= impl.MaxItems
		for _, length := range shape {
			valid = valid && length >= 0 && length <= impl.MaxItems
		}
		size := min(max(product(shape), 0), len(zeros)-1)
		checkCounted(t, impl.Array{Shape: shape, Data: zeros[:size]}, valid)
		checkCounted(t, impl.Array{Shape: shape, Data: zeros[:size+1]}, false)
		if size > 0 {
			checkCounted(t, impl.Array{Shape: shape, Data: zeros[:size-1]}, false)
		}
	})
}

func TestP1AxesWithoutPlaces(t *testing.T) {
	for _, shape := range [][]int{{0}, {0, 60}, {60, 0}, {60, 60, 0}, {60, 0, 60}, {0, 60, 60}, {0, 0, 0}} {
		checkCounted(t, impl.Array{Shape: shape}, true)
		checkCounted(t, impl.Array{Shape: shape, Data: []int{}}, true)
		checkCounted(t, impl.Array{Shape: shape, Data: []int{0}}, false)
	}
}

func TestP1ArraysWithoutAxes(t *testing.T) {
	for _, shape := range [][]int{nil, {}} {
		checkCounted(t, impl.Array{Shape: shape, Data: []int{0}}, true)
		checkCounted(t, impl.Array{Shape: shape}, false)
		checkCounted(t, impl.Array{Shape: shape, Data: []int{0, 0}}, false)
	}
}

func TestP1EveryNumberIsLimited(t *testing.T) {
	for _, shape := range [][]int{nil, {60}, {2, 3}, {3, 4, 5}} {
		for i := range product(shape) {
			a := filled(shape)
			for _, n := range []int{-impl.MaxNum, impl.MaxNum} {
				a.Data[i] = n
				checkCounted(t, a, true)
			}
			for _, n := range beyond() {
				a.Data[i] = n
				checkCounted(t, a, false)
			}
		}
	}
}

func TestP4SingleNumbersHaveNoAxes(t *testing.T) {
	for _, n := range []int{0, 1, -1, 5, -999999, impl.MaxNum, -impl.MaxNum} {
		a := impl.ScalarOf(n)
		if len(a.Shape) != 0 || !slices.Equal(a.Data, []int{n}) {
			t.Errorf("ScalarOf(%d) = %v", n, a)
		}
		if impl.RankOf(a) != 0 || impl.SizeOf(a) != 1 {
			t.Errorf("ScalarOf(%d): rank %d, size %d", n, impl.RankOf(a), impl.SizeOf(a))
		}
	}
}

func TestP4OtherNumbersAreNoArrays(t *testing.T) {
	for _, n := range beyond() {
		if a := impl.ScalarOf(n); !isZero(a) {
			t.Errorf("ScalarOf(%d) = %v", n, a)
		}
	}
}

func TestVectorsHaveTheirNumbers(t *testing.T) {
	for n := range impl.MaxItems + 1 {
		list := filled([]int{n}).Data
		a := impl.VectorOf(list)
		if !slices.Equal(a.Shape, []int{n}) || !slices.Equal(a.Data, list) {
			t.Errorf("VectorOf(%v) = %v", list, a)
		}
	}
	limits := []int{impl.MaxNum, -impl.MaxNum}
	if a := impl.VectorOf(limits); !slices.Equal(a.Shape, []int{2}) || !slices.Equal(a.Data, limits) {
		t.Errorf("VectorOf(%v) = %v", limits, a)
	}
	if a := impl.VectorOf(nil); !slices.Equal(a.Shape, []int{0}) || len(a.Data) != 0 {
		t.Errorf("VectorOf(nil) = %v", a)
	}
}

func TestVectorsAreLimited(t *testing.T) {
	for _, n := range []int{impl.MaxItems + 1, 1000} {
		if a := impl.VectorOf(make([]int, n)); !isZero(a) {
			t.Errorf("VectorOf %d numbers = %v", n, a)
		}
	}
	for _, n := range beyond() {
		for i := range 3 {
			list := make([]int, 3)
			list[i] = n
			if a := impl.VectorOf(list); !isZero(a) {
				t.Errorf("VectorOf(%v) = %v", list, a)
			}
		}
	}
}

func TestCountToHasEachNumberAtItsPlace(t *testing.T) {
	for n := range impl.MaxItems + 1 {
		a := impl.CountTo(n)
		if !impl.ValidArray(a) || !slices.Equal(a.Shape, []int{n}) {
			t.Errorf("CountTo(%d) = %v", n, a)
		}
		for i, m := range a.Data {
			if m != i {
				t.Errorf("CountTo(%d) has %d at %d", n, m, i)
			}
		}
	}
	for _, n := range []int{-1, impl.MaxItems + 1, math.MinInt, math.MaxInt} {
		if a := impl.CountTo(n); !isZero(a) {
			t.Errorf("CountTo(%d) = %v", n, a)
		}
	}
}

func TestNewArraysAreFresh(t *testing.T) {
	for _, list := range [][]int{{}, {3}, {3, 4, 5}} {
		list = roomy(list)
		kept := slices.Clone(list[:cap(list)])
		a, b := impl.VectorOf(list), impl.VectorOf(list)
		if !slices.Equal(list[:cap(list)], kept) {
			t.Errorf("VectorOf changed its argument to %v", list[:cap(list)])
		}
		wantApart(t, "VectorOf", list, a.Shape, a.Data, b.Shape, b.Data)
	}
	for _, n := range []int{0, 1, 5, impl.MaxItems} {
		a, b := impl.CountTo(n), impl.CountTo(n)
		wantApart(t, "CountTo", a.Shape, a.Data, b.Shape, b.Data)
		c, d := impl.ScalarOf(n), impl.ScalarOf(n)
		wantApart(t, "ScalarOf", c.Shape, c.Data, d.Shape, d.Data)
	}
}

func TestCountingChangesNothing(t *testing.T) {
	for _, a := range append(samples(), invalidArrays()...) {
		kept := cloned(a)
		impl.ValidArray(a)
		impl.RankOf(a)
		impl.SizeOf(a)
		if !equal(a, kept) {
			t.Errorf("%v became %v", kept, a)
		}
	}
}
