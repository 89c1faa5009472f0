package tests

import (
	"slices"
	"testing"

	"loop.example/arraylanguage/impl"
)

// vectors are valid arrays with one axis: with equal numbers and without, in
// order and not, of every length.
func vectors() []impl.Array {
	const most = impl.MaxNum
	list := []impl.Array{
		vector(), vector(0), vector(-5), vector(3, 1, 2, 1), vector(2, 2), vector(0, 0, 0), vector(1, 2, 3),
		vector(3, 2, 1), vector(0, 5, 0, 1), vector(most, -most, 0, most, -most), vector(1, 0, -1, 0, 1),
		vector(numbers()...), vector(slices.Repeat([]int{7}, impl.MaxItems)...), impl.CountTo(impl.MaxItems),
	}
	for length := range impl.MaxItems + 1 {
		v := mixed([]int{length})
		for i := range v.Data {
			v.Data[i] = (i*i+3*i)%11 - 4
		}
		list = append(list, v, filled([]int{length}))
	}
	return list
}

// otherVectors are arrays that are not valid, or do not have one axis.
func otherVectors() []impl.Array {
	list := invalidArrays()
	for _, a := range samples() {
		if len(a.Shape) != 1 {
			list = append(list, a)
		}
	}
	return append(list, impl.Array{Shape: []int{1, 1}, Data: []int{0}}, impl.Array{Shape: []int{1, 3}, Data: []int{0, 1, 2}})
}

// asVector fails unless an array is valid and has one axis of a length in
// 0..most.
func asVector(t *testing.T, what string, of, a impl.Array, most int) impl.Array {
	t.Helper()
	if !impl.ValidArray(a) || len(a.Shape) != 1 || len(a.Data) > most {
		t.Fatalf("%s(%v) = %v", what, of, a)
	}
	return a
}

// grade returns GradeUp of a valid array with one axis.
func grade(t *testing.T, a impl.Array) impl.Array {
	t.Helper()
	return asVector(t, "GradeUp", a, impl.GradeUp(a), len(a.Data))
}

// sorted returns SortArray of a valid array with one axis.
func sorted(t *testing.T, a impl.Array) impl.Array {
	t.Helper()
	return asVector(t, "SortArray", a, impl.SortArray(a), len(a.Data))
}

// unique returns UniqueItems of a valid array with one axis.
func unique(t *testing.T, a impl.Array) impl.Array {
	t.Helper()
	return asVector(t, "UniqueItems", a, impl.UniqueItems(a), len(a.Data))
}

// where returns WhereItems of a valid array with one axis.
func where(t *testing.T, a impl.Array) impl.Array {
	t.Helper()
	return asVector(t, "WhereItems", a, impl.WhereItems(a), len(a.Data))
}

// pick returns PickItems of a call that has to succeed.
func pick(t *testing.T, a, places impl.Array) impl.Array {
	t.Helper()
	b, ok := impl.PickItems(a, places)
	if !ok || !impl.ValidArray(b) || !slices.Equal(b.Shape, places.Shape) {
		t.Fatalf("PickItems(%v, %v) = %v, %v", a, places, b, ok)
	}
	return b
}

// find returns FindItems of a call that has to succeed.
func find(t *testing.T, a, what impl.Array) impl.Array {
	t.Helper()
	b, ok := impl.FindItems(a, what)
	if !ok || !impl.ValidArray(b) || !slices.Equal(b.Shape, what.Shape) {
		t.Fatalf("FindItems(%v, %v) = %v, %v", a, what, b, ok)
	}
	return b
}

// wantNoPick fails unless PickItems returns the zero value and false.
func wantNoPick(t *testing.T, a, places impl.Array) {
	t.Helper()
	if b, ok := impl.PickItems(a, places); ok || !isZero(b) {
		t.Errorf("PickItems(%v, %v) = %v, %v", a, places, b, ok)
	}
}

// ascends reports whether numbers are strictly ascending.
func ascends(list []int) bool {
	for i := 1; i < len(list); i++ {
		if list[i-1] >= list[i] {
			return false
		}
	}
	return true
}

// indicesFor returns indices of numbers of a vector in a shape.
func indicesFor(a impl.Array, shape []int) impl.Array {
	places := impl.Array{Shape: shape}
	for i := range product(shape) {
		places.Data = append(places.Data, (i*i+5*i)%len(a.Data))
	}
	return places
}

// pickShapes are shapes in which indices are given.
func pickShapes() [][]int {
	return [][]int{nil, {0}, {1}, {7}, {impl.MaxItems}, {1, 2}, {2, 3}, {60, 0}, {3, 4, 5}, {60, 60, 0}}
}

func TestP6CountingPicksEverything(t *testing.T) {
	for n := range impl.MaxItems + 1 {
		a := impl.CountTo(n)
		if b := pick(t, a, a); !equal(b, a) {
			t.Errorf("PickItems(%v) at itself = %v", a, b)
		}
		if b := grade(t, a); !equal(b, a) {
			t.Errorf("GradeUp(%v) = %v", a, b)
		}
		for i, place := range a.Data {
			if item, ok := impl.ItemAt(a, []int{i}); !ok || item != i || place != i {
				t.Errorf("CountTo(%d) has %d at %d", n, item, i)
			}
		}
	}
}

func TestP61GradesPutInOrder(t *testing.T) {
	for _, a := range vectors() {
		places := grade(t, a)
		if b := pick(t, a, places); !equal(b, sorted(t, a)) || !slices.IsSorted(b.Data) {
			t.Errorf("%v at GradeUp %v is %v", a, places, b)
		}
		seen := make([]int, len(a.Data))
		for _, i := range places.Data {
			seen[i]++
		}
		if !slices.Equal(seen, slices.Repeat([]int{1}, len(a.Data))) {
			t.Errorf("GradeUp(%v) = %v", a, places)
		}
	}
}

func TestP61OtherArraysHaveNoOrder(t *testing.T) {
	for _, a := range otherVectors() {
		if b := impl.GradeUp(a); !isZero(b) {
			t.Errorf("GradeUp(%v) = %v", a, b)
		}
	}
}

func TestP62EqualNumbersKeepTheirOrder(t *testing.T) {
	for _, a := range vectors() {
		places := grade(t, a).Data
		for n := 1; n < len(places); n++ {
			i, j := places[n-1], places[n]
			if a.Data[i] > a.Data[j] || a.Data[i] == a.Data[j] && i >= j {
				t.Errorf("GradeUp(%v) = %v", a, places)
			}
		}
	}
	for _, x := range [][2]impl.Array{
		{vector(3, 1, 2, 1), vector(1, 3, 2, 0)},
		{vector(5, 5, 5), vector(0, 1, 2)},
		{vector(1, 0, 1, 0, 1, 0), vector(1, 3, 5, 0, 2, 4)},
		{vector(0, -1, impl.MaxNum, -impl.MaxNum), vector(3, 1, 0, 2)},
		{vector(9), vector(0)},
		{vector(), vector()},
	} {
		if b := grade(t, x[0]); !equal(b, x[1]) {
			t.Errorf("GradeUp(%v) = %v", x[0], b)
		}
	}
	same := impl.Array{Shape: []int{60}, Data: slices.Repeat([]int{4, 3}, 30)}
	places := grade(t, same).Data
	if !ascends(places[:30]) || !ascends(places[30:]) || places[0] != 1 || places[30] != 0 {
		t.Errorf("GradeUp(%v) = %v", same, places)
	}
}

func TestP63SortedIsSorted(t *testing.T) {
	for _, a := range vectors() {
		want := slices.Sorted(slices.Values(a.Data))
		b := sorted(t, a)
		if !slices.Equal(b.Data, want) {
			t.Errorf("SortArray(%v) = %v", a, b)
		}
		if again := sorted(t, b); !equal(again, b) {
			t.Errorf("SortArray(%v) = %v", b, again)
		}
		if other := sorted(t, impl.ReverseAxis(a, 0)); !equal(other, b) {
			t.Errorf("SortArray of %v reversed = %v", a, other)
		}
	}
	if b := sorted(t, vector(3, 1, 2, 1)); !equal(b, vector(1, 1, 2, 3)) {
		t.Errorf("SortArray = %v", b)
	}
	for _, a := range otherVectors() {
		if b := impl.SortArray(a); !isZero(b) {
			t.Errorf("SortArray(%v) = %v", a, b)
		}
	}
}

func TestP64PickedNumbersAreThoseAtTheirPlaces(t *testing.T) {
	for _, a := range vectors() {
		if b := pick(t, a, impl.CountTo(len(a.Data))); !equal(b, a) {
			t.Errorf("%v at all indices is %v", a, b)
		}
		if len(a.Data) == 0 {
			continue
		}
		for _, shape := range pickShapes() {
			places := indicesFor(a, shape)
			b := pick(t, a, places)
			for i, place := range places.Data {
				if b.Data[i] != a.Data[place] {
					t.Errorf("PickItems(%v, %v) = %v", a, places, b)
				}
			}
		}
	}
	v := vector(3, 1, 2, 1)
	places := impl.Array{Shape: []int{1, 2}, Data: []int{2, 0}}
	if b := pick(t, v, places); !equal(b, impl.Array{Shape: []int{1, 2}, Data: []int{2, 3}}) {
		t.Errorf("PickItems(%v, %v) = %v", v, places, b)
	}
	if b := pick(t, v, impl.ScalarOf(3)); !equal(b, impl.ScalarOf(1)) {
		t.Errorf("PickItems(%v, 3) = %v", v, b)
	}
}

func TestP64NoNumbersArePickedFromAnywhere(t *testing.T) {
	for _, a := range []impl.Array{vector(), vector(5), vector(5, 6)} {
		for _, shape := range [][]int{{0}, {0, 60}, {60, 0}, {2, 0, 2}, {60, 60, 0}} {
			places := impl.Array{Shape: shape}
			if b := pick(t, a, places); !equal(b, places) {
				t.Errorf("PickItems(%v, %v) = %v", a, places, b)
			}
		}
	}
}

func TestP64OtherPlacesAreNotPicked(t *testing.T) {
	for _, a := range vectors() {
		for _, n := range []int{-1, len(a.Data), len(a.Data) + 1, -len(a.Data), -impl.MaxNum, impl.MaxNum} {
			if n == 0 && len(a.Data) > 0 {
				continue
			}
			wantNoPick(t, a, impl.ScalarOf(n))
			wantNoPick(t, a, vector(n))
			wantNoPick(t, a, vector(0, 0, n))
			wantNoPick(t, a, vector(n, 0))
		}
	}
	for _, bad := range invalidArrays() {
		for _, good := range []impl.Array{vector(), vector(5), vector(5, 6), impl.CountTo(impl.MaxItems)} {
			wantNoPick(t, good, bad)
		}
	}
	for _, bad := range otherVectors() {
		for _, good := range []impl.Array{vector(), impl.ScalarOf(0), vector(0), impl.Array{Shape: []int{60, 0}}, bad} {
			wantNoPick(t, bad, good)
		}
	}
}

func TestP65FoundNumbersAreThere(t *testing.T) {
	arrays := []impl.Array{impl.ScalarOf(1), impl.ScalarOf(-99), vector(1, 5, 0, -1), vector(numbers()...), {Shape: []int{60, 0}}}
	for _, shape := range [][]int{{0}, {2, 3}, {3, 4, 5}, {60, 60, 0}} {
		arrays = append(arrays, mixed(shape))
	}
	for _, a := range vectors() {
		for _, what := range append(arrays, a, impl.MapArray(impl.FnNegate, a)) {
			b := find(t, a, what)
			for i, n := range what.Data {
				at := b.Data[i]
				first := slices.Index(a.Data, n)
				if first < 0 && at != len(a.Data) || first >= 0 && at != first {
					t.Errorf("FindItems(%v, %v) = %v", a, what, b)
				}
			}
		}
	}
	for _, x := range [][2]impl.Array{
		{vector(1, 5), vector(1, 4)},
		{vector(1, 1, 3, 2), vector(1, 1, 0, 2)},
		{impl.ScalarOf(2), impl.ScalarOf(2)},
		{{Shape: []int{2, 1}, Data: []int{9, 3}}, {Shape: []int{2, 1}, Data: []int{4, 0}}},
	} {
		if b := find(t, vector(3, 1, 2, 1), x[0]); !equal(b, x[1]) {
			t.Errorf("FindItems([3 1 2 1], %v) = %v", x[0], b)
		}
	}
}

func TestP65NothingIsFound(t *testing.T) {
	want := func(a, what impl.Array) {
		if b, ok := impl.FindItems(a, what); ok || !isZero(b) {
			t.Errorf("FindItems(%v, %v) = %v, %v", a, what, b, ok)
		}
	}
	for _, bad := range invalidArrays() {
		for _, good := range []impl.Array{vector(), vector(5), vector(5, 6)} {
			want(good, bad)
		}
	}
	for _, bad := range otherVectors() {
		for _, good := range []impl.Array{vector(), impl.ScalarOf(0), vector(0), bad} {
			want(bad, good)
		}
	}
}

func TestP66NumbersFindThemselves(t *testing.T) {
	for _, a := range vectors() {
		if b := pick(t, a, find(t, a, a)); !equal(b, a) {
			t.Errorf("%v where it finds itself is %v", a, b)
		}
	}
}

func TestP67UniqueNumbersAreThereOnce(t *testing.T) {
	for _, a := range vectors() {
		b := unique(t, a)
		counts := map[int]int{}
		for _, n := range a.Data {
			counts[n] = 0
		}
		for _, n := range b.Data {
			counts[n]++
		}
		for n, count := range counts {
			if count != 1 || !slices.Contains(a.Data, n) {
				t.Errorf("UniqueItems(%v) = %v", a, b)
			}
		}
		if again := unique(t, b); !equal(again, b) {
			t.Errorf("UniqueItems(%v) = %v", b, again)
		}
	}
	for _, x := range [][2]impl.Array{
		{vector(3, 1, 2, 1), vector(3, 1, 2)},
		{vector(2, 2, 2), vector(2)},
		{vector(0, 1, 0, -1), vector(0, 1, -1)},
		{vector(), vector()},
	} {
		if b := unique(t, x[0]); !equal(b, x[1]) {
			t.Errorf("UniqueItems(%v) = %v", x[0], b)
		}
	}
	for _, a := range otherVectors() {
		if b := impl.UniqueItems(a); !isZero(b) {
			t.Errorf("UniqueItems(%v) = %v", a, b)
		}
	}
}

func TestP68UniqueNumbersKeepTheirOrder(t *testing.T) {
	for _, a := range vectors() {
		places := find(t, a, unique(t, a))
		if !ascends(places.Data) || slices.Contains(places.Data, len(a.Data)) {
			t.Errorf("the unique numbers of %v are at %v", a, places)
		}
	}
}

func TestP69PlacesAreWhereNumbersAre(t *testing.T) {
	for _, a := range vectors() {
		places := where(t, a)
		if !ascends(places.Data) {
			t.Errorf("WhereItems(%v) = %v", a, places)
		}
		var want []int
		for _, n := range a.Data {
			if n != 0 {
				want = append(want, n)
			}
		}
		if b := pick(t, a, places); !slices.Equal(b.Data, want) {
			t.Errorf("WhereItems(%v) = %v with %v", a, places, b)
		}
	}
	for _, x := range [][2]impl.Array{
		{vector(0, 5, 0, 1), vector(1, 3)},
		{vector(0, 0), vector()},
		{vector(-1, 0, 2), vector(0, 2)},
		{vector(), vector()},
	} {
		if b := where(t, x[0]); !equal(b, x[1]) {
			t.Errorf("WhereItems(%v) = %v", x[0], b)
		}
	}
	for _, a := range otherVectors() {
		if b := impl.WhereItems(a); !isZero(b) {
			t.Errorf("WhereItems(%v) = %v", a, b)
		}
	}
}

func TestP145GradesOfGradesAreRanks(t *testing.T) {
	for _, a := range vectors() {
		ranks := grade(t, grade(t, a))
		if b := pick(t, sorted(t, a), ranks); !equal(b, a) {
			t.Errorf("%v sorted, at %v, is %v", a, ranks, b)
		}
	}
}

func TestP146PlacesAndMasksAreTheSame(t *testing.T) {
	masks := []impl.Array{vector(), vector(0), vector(1), vector(0, 1), vector(1, 0, 1), vector(0, 0, 0)}
	for _, a := range vectors() {
		masks = append(masks, impl.MapArray(impl.FnNot, a), impl.MapArray(impl.FnNot, impl.MapArray(impl.FnNot, a)))
	}
	for _, mask := range masks {
		ones := repeat(t, mask, 0, mask.Data)
		if count := len(where(t, mask).Data); !equal(ones, vector(slices.Repeat([]int{1}, count)...)) {
			t.Errorf("%v repeated by itself is %v, and there are %d places", mask, ones, count)
		}
	}
}

func TestP147SortedUniqueNumbersAscend(t *testing.T) {
	for _, a := range vectors() {
		one, other := sorted(t, unique(t, a)), unique(t, sorted(t, a))
		if !ascends(one.Data) || !equal(one, other) {
			t.Errorf("%v: %v and %v", a, one, other)
		}
	}
}

func TestP153WhatIsMissingIsBehindTheEnd(t *testing.T) {
	for _, a := range vectors() {
		var others []int
		for n := -5; len(others) < 4; n++ {
			if !slices.Contains(a.Data, n) {
				others = append(others, n)
			}
		}
		want := slices.Repeat([]int{len(a.Data)}, 4)
		for _, shape := range [][]int{{4}, {2, 2}, {2, 1, 2}} {
			if b := find(t, a, impl.Array{Shape: shape, Data: others}); !slices.Equal(b.Data, want) {
				t.Errorf("FindItems(%v, %v) = %v", a, others, b)
			}
		}
		if b := find(t, a, impl.ScalarOf(others[0])); !equal(b, impl.ScalarOf(len(a.Data))) {
			t.Errorf("FindItems(%v, %d) = %v", a, others[0], b)
		}
	}
}

func TestP160SortedArraysBeginWithTheLeastNumber(t *testing.T) {
	for _, a := range vectors() {
		b := sorted(t, a).Data
		if len(b) == 0 {
			continue
		}
		least, greatest := impl.ReduceAll(impl.OpMin, a), impl.ReduceAll(impl.OpMax, a)
		if b[0] != least || b[len(b)-1] != greatest {
			t.Errorf("SortArray(%v) = %v, not from %d to %d", a, b, least, greatest)
		}
	}
}

func TestP161PickingCanBeDoneInSteps(t *testing.T) {
	for _, a := range vectors() {
		if len(a.Data) == 0 {
			continue
		}
		between := indicesFor(a, []int{len(a.Data)})
		for _, shape := range pickShapes() {
			places := indicesFor(a, shape)
			one, other := pick(t, pick(t, a, between), places), pick(t, a, pick(t, between, places))
			if !equal(one, other) {
				t.Errorf("%v at %v at %v: %v and %v", a, between, places, one, other)
			}
		}
	}
}

func TestOrdersAreFresh(t *testing.T) {
	for _, sample := range []impl.Array{vector(), vector(0), vector(2, 1, 0), vector(0, 1, 2), vector(1, 1, 0, 3)} {
		a := impl.Array{Shape: roomy(sample.Shape), Data: roomy(sample.Data)}
		places := impl.Array{Shape: roomy([]int{1, len(a.Data)}), Data: roomy(impl.CountTo(len(a.Data)).Data)}
		arguments := [][]int{a.Shape, a.Data, places.Shape, places.Data}
		before := wholes(arguments)
		lists := slices.Clone(arguments)
		for range 2 {
			for _, b := range []impl.Array{grade(t, a), sorted(t, a), unique(t, a), where(t, a),
				pick(t, a, places), find(t, a, places), find(t, a, a)} {
				lists = append(lists, b.Shape, b.Data)
			}
		}
		wantKept(t, arguments, before)
		wantApart(t, "orders", lists...)
	}
}
