package tests

import (
	"math"
	"slices"
	"testing"

	"loop.example/arraylanguage/impl"
)

// ordersOf returns all orders of so many axes.
func ordersOf(rank int) [][]int {
	orders := [][]int{{}}
	for axis := range rank {
		var longer [][]int
		for _, order := range orders {
			for at := range len(order) + 1 {
				longer = append(longer, slices.Insert(slices.Clone(order), at, axis))
			}
		}
		orders = longer
	}
	return orders
}

// otherOrders are lists that are no orders of any number of axes.
func otherOrders() [][]int {
	return [][]int{
		{1}, {-1}, {2}, {math.MaxInt}, {math.MinInt},
		{0, 0}, {1, 1}, {0, 2}, {2, 1}, {-1, 0}, {0, math.MinInt},
		{0, 0, 1}, {0, 1, 1}, {2, 2, 0}, {0, 1, 3}, {1, 2, 3}, {-1, 0, 1}, {2, 1, -1}, {0, math.MaxInt, 1},
		{0, 1, 2, 3}, {3, 2, 1, 0}, {0, 1, 2, 2}, {0, 1, 2, -1}, {0, 0, 0, 0}, make([]int, 100),
	}
}

// move returns MoveAxes of a call that has to succeed.
func move(t *testing.T, a impl.Array, order []int) impl.Array {
	t.Helper()
	b, ok := impl.MoveAxes(a, order)
	if !ok || !impl.ValidArray(b) {
		t.Fatalf("MoveAxes(%v, %v) = %v, %v", a, order, b, ok)
	}
	return b
}

// back returns OrderBack of a call that has to succeed.
func back(t *testing.T, order []int) []int {
	t.Helper()
	list, ok := impl.OrderBack(order)
	if !ok || len(list) != len(order) {
		t.Fatalf("OrderBack(%v) = %v, %v", order, list, ok)
	}
	return list
}

// transpose returns Transpose of a valid array.
func transpose(t *testing.T, a impl.Array) impl.Array {
	t.Helper()
	b := impl.Transpose(a)
	if !impl.ValidArray(b) || len(b.Shape) != len(a.Shape) {
		t.Fatalf("Transpose(%v) = %v", a, b)
	}
	return b
}

// everyOrder calls f for each order of the axes of each sample.
func everyOrder(f func(a impl.Array, order []int)) {
	for _, a := range append(samples(), cube()) {
		for _, order := range ordersOf(len(a.Shape)) {
			f(a, order)
		}
	}
}

func TestP3SizesAreNumbersOfNumbers(t *testing.T) {
	validShapes(func(shape []int) {
		a := filled(shape)
		n := impl.SizeOf(a)
		if n != len(a.Data) || n > impl.MaxItems || n != product(shape) {
			t.Fatalf("SizeOf(%v) = %d", a, n)
		}
		if r, x := impl.SizeOf(impl.Ravel(a)), impl.SizeOf(impl.Transpose(a)); r != n || x != n {
			t.Fatalf("the size of %v is %d, raveled %d and transposed %d", a, n, r, x)
		}
	})
	for _, a := range invalidArrays() {
		if r, x := impl.SizeOf(impl.Ravel(a)), impl.SizeOf(impl.Transpose(a)); impl.SizeOf(a) != -1 || r != -1 || x != -1 {
			t.Errorf("the size of %v is %d, raveled %d and transposed %d", a, impl.SizeOf(a), r, x)
		}
	}
}

func TestP47AxesCanBeMovedBack(t *testing.T) {
	everyOrder(func(a impl.Array, order []int) {
		moved := move(t, a, order)
		if b := move(t, moved, back(t, order)); !equal(b, a) {
			t.Errorf("MoveAxes(%v, %v) = %v, and back %v", a, order, moved, b)
		}
	})
}

func TestP48NumbersMoveWithTheirAxes(t *testing.T) {
	everyOrder(func(a impl.Array, order []int) {
		b := move(t, a, order)
		for i, k := range order {
			if b.Shape[i] != a.Shape[k] {
				t.Errorf("MoveAxes(%v, %v) has the shape %v", a, order, b.Shape)
			}
		}
		for _, place := range placesIn(b.Shape) {
			from := make([]int, len(order))
			for i, k := range order {
				from[k] = place[i]
			}
			want, _ := impl.ItemAt(a, from)
			if n, ok := impl.ItemAt(b, place); !ok || n != want {
				t.Errorf("MoveAxes(%v, %v) has %d at %v", a, order, n, place)
			}
		}
	})
}

func TestP48EveryOrderOfThreeAxes(t *testing.T) {
	a := impl.Array{Shape: []int{2, 1, 3}, Data: []int{1, 2, 3, 4, 5, 6}}
	for _, x := range []struct {
		order []int
		want  impl.Array
	}{
		{[]int{0, 1, 2}, a},
		{[]int{0, 2, 1}, impl.Array{Shape: []int{2, 3, 1}, Data: []int{1, 2, 3, 4, 5, 6}}},
		{[]int{1, 0, 2}, impl.Array{Shape: []int{1, 2, 3}, Data: []int{1, 2, 3, 4, 5, 6}}},
		{[]int{1, 2, 0}, impl.Array{Shape: []int{1, 3, 2}, Data: []int{1, 4, 2, 5, 3, 6}}},
		{[]int{2, 0, 1}, impl.Array{Shape: []int{3, 2, 1}, Data: []int{1, 4, 2, 5, 3, 6}}},
		{[]int{2, 1, 0}, impl.Array{Shape: []int{3, 1, 2}, Data: []int{1, 4, 2, 5, 3, 6}}},
	} {
		if b := move(t, a, x.order); !equal(b, x.want) {
			t.Errorf("MoveAxes(%v, %v) = %v", a, x.order, b)
		}
	}
	want := impl.Array{Shape: []int{4, 2, 3}, Data: []int{1, 5, 9, 13, 17, 21, 2, 6, 10, 14, 18, 22,
		3, 7, 11, 15, 19, 23, 4, 8, 12, 16, 20, 24}}
	if b := move(t, cube(), []int{2, 0, 1}); !equal(b, want) {
		t.Errorf("MoveAxes(cube, [2 0 1]) = %v", b)
	}
}

func TestP48OtherArgumentsAreNotMoved(t *testing.T) {
	wantNone := func(a impl.Array, order []int) {
		t.Helper()
		if b, ok := impl.MoveAxes(a, order); ok || !isZero(b) {
			t.Errorf("MoveAxes(%v, %v) = %v, %v", a, order, b, ok)
		}
	}
	for _, a := range samples() {
		for _, order := range otherOrders() {
			wantNone(a, order)
		}
		for rank := range impl.MaxRank + 2 {
			if rank == len(a.Shape) {
				continue
			}
			for _, order := range ordersOf(rank) {
				wantNone(a, order)
			}
		}
	}
	for _, a := range invalidArrays() {
		for rank := range impl.MaxRank + 2 {
			for _, order := range ordersOf(rank) {
				wantNone(a, order)
			}
		}
		for _, order := range otherOrders() {
			wantNone(a, order)
		}
	}
}

func TestP49TransposingTwiceChangesNothing(t *testing.T) {
	validShapes(func(shape []int) {
		a := filled(shape)
		b := transpose(t, a)
		slices.Reverse(b.Shape)
		if !slices.Equal(b.Shape, a.Shape) {
			t.Fatalf("Transpose(%v) has the shape of %v", a, b)
		}
		slices.Reverse(b.Shape)
		if twice := transpose(t, b); !equal(twice, a) {
			t.Fatalf("Transpose(%v) = %v, and again %v", a, b, twice)
		}
		if len(shape) <= 1 && !equal(b, a) {
			t.Fatalf("Transpose(%v) = %v", a, b)
		}
	})
}

func TestP49AxesAreInReverseOrder(t *testing.T) {
	for _, x := range [][2]impl.Array{
		{{Shape: []int{2, 3}, Data: []int{1, 2, 3, 4, 5, 6}}, {Shape: []int{3, 2}, Data: []int{1, 4, 2, 5, 3, 6}}},
		{{Shape: []int{2, 2, 2}, Data: []int{1, 2, 3, 4, 5, 6, 7, 8}}, {Shape: []int{2, 2, 2}, Data: []int{1, 5, 3, 7, 2, 6, 4, 8}}},
		{{Shape: []int{1, 2, 3}, Data: []int{1, 2, 3, 4, 5, 6}}, {Shape: []int{3, 2, 1}, Data: []int{1, 4, 2, 5, 3, 6}}},
		{{Shape: []int{60, 0, 2}}, {Shape: []int{2, 0, 60}}},
		{impl.ScalarOf(5), impl.ScalarOf(5)},
		{vector(5, 6), vector(5, 6)},
		{vector(), vector()},
	} {
		if b := transpose(t, x[0]); !equal(b, x[1]) {
			t.Errorf("Transpose(%v) = %v", x[0], b)
		}
	}
	for _, a := range invalidArrays() {
		if b := impl.Transpose(a); !isZero(b) {
			t.Errorf("Transpose(%v) = %v", a, b)
		}
	}
}

func TestP50FunctionsDoNotCareForAxes(t *testing.T) {
	for _, a := range append(mixedSamples(), cube()) {
		for _, fn := range everyFn() {
			one, other := mapped(t, fn, transpose(t, a)), transpose(t, mapped(t, fn, a))
			if !equal(one, other) {
				t.Errorf("MapArray(%d) of %v transposed: %v and %v", fn, a, one, other)
			}
		}
	}
}

func TestP51DiagonalsStay(t *testing.T) {
	validShapes(func(shape []int) {
		if len(shape) == 0 {
			return
		}
		a := filled(shape)
		want := impl.Array{Shape: []int{slices.Min(shape)}}
		for i := range slices.Min(shape) {
			n, _ := impl.ItemAt(a, slices.Repeat([]int{i}, len(shape)))
			want.Data = append(want.Data, n)
		}
		one, other := impl.Diagonal(a), impl.Diagonal(transpose(t, a))
		if !impl.ValidArray(one) || !equal(one, want) || !equal(other, want) {
			t.Fatalf("Diagonal(%v) = %v, and transposed %v", a, one, other)
		}
	})
}

func TestP51DiagonalsHaveTheSameIndices(t *testing.T) {
	for _, x := range [][2]impl.Array{
		{{Shape: []int{3, 3}, Data: []int{1, 2, 3, 4, 5, 6, 7, 8, 9}}, vector(1, 5, 9)},
		{{Shape: []int{2, 3}, Data: []int{1, 2, 3, 4, 5, 6}}, vector(1, 5)},
		{{Shape: []int{3, 2}, Data: []int{1, 2, 3, 4, 5, 6}}, vector(1, 4)},
		{cube(), vector(1, 18)},
		{{Shape: []int{60, 60, 0}}, vector()},
		{{Shape: []int{0, 3}}, vector()},
		{vector(4, 5, 6), vector(4, 5, 6)},
		{vector(), vector()},
	} {
		if d := impl.Diagonal(x[0]); !equal(d, x[1]) {
			t.Errorf("Diagonal(%v) = %v", x[0], d)
		}
	}
}

func TestP51OtherArraysHaveNoDiagonal(t *testing.T) {
	others := append(invalidArrays(), impl.ScalarOf(0), impl.ScalarOf(5), impl.Array{Shape: []int{}, Data: []int{-3}})
	for _, a := range others {
		if d := impl.Diagonal(a); !isZero(d) {
			t.Errorf("Diagonal(%v) = %v", a, d)
		}
	}
}

func TestP52UndoingCanBeUndone(t *testing.T) {
	for rank := range impl.MaxRank + 1 {
		for _, order := range ordersOf(rank) {
			list := back(t, order)
			for i, k := range order {
				if list[k] != i {
					t.Errorf("OrderBack(%v) = %v", order, list)
				}
			}
			if twice := back(t, list); !slices.Equal(twice, order) {
				t.Errorf("OrderBack(%v) = %v, and again %v", order, list, twice)
			}
		}
	}
	if list := back(t, nil); len(list) != 0 {
		t.Errorf("OrderBack(nil) = %v", list)
	}
}

func TestP52OtherOrdersCannotBeUndone(t *testing.T) {
	for _, order := range append(otherOrders(), ordersOf(impl.MaxRank+1)...) {
		if list, ok := impl.OrderBack(order); ok || len(list) != 0 {
			t.Errorf("OrderBack(%v) = %v, %v", order, list, ok)
		}
	}
}

func TestP157TheOwnOrderChangesNothing(t *testing.T) {
	for _, a := range append(samples(), cube()) {
		order := impl.CountTo(len(a.Shape)).Data
		if b := move(t, a, order); !equal(b, a) {
			t.Errorf("MoveAxes(%v, %v) = %v", a, order, b)
		}
		slices.Reverse(order)
		if b := move(t, a, order); !equal(b, transpose(t, a)) {
			t.Errorf("MoveAxes(%v, %v) = %v", a, order, b)
		}
	}
	for _, order := range [][]int{nil, {}} {
		if b := move(t, impl.ScalarOf(5), order); !equal(b, impl.ScalarOf(5)) {
			t.Errorf("MoveAxes(5, no axes) = %v", b)
		}
	}
}

func TestMovedAxesAreFresh(t *testing.T) {
	for _, sample := range append(samples(), cube()) {
		for _, moved := range ordersOf(len(sample.Shape)) {
			order := roomy(moved)
			a := impl.Array{Shape: roomy(sample.Shape), Data: roomy(sample.Data)}
			lists := [][]int{a.Shape, a.Data, order}
			before := wholes(lists)
			for range 2 {
				b, c, d := move(t, a, order), transpose(t, a), impl.Diagonal(a)
				lists = append(lists, b.Shape, b.Data, c.Shape, c.Data, d.Shape, d.Data, back(t, order))
			}
			wantKept(t, lists, before)
			wantApart(t, "axes", lists...)
		}
	}
}
