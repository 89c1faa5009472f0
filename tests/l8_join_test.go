package tests

import (
	"math"
	"slices"
	"testing"

	"loop.example/arraylanguage/impl"
)

// join returns JoinAxis of a call that has to succeed.
func join(t *testing.T, a, b impl.Array, k int) impl.Array {
	t.Helper()
	c, ok := impl.JoinAxis(a, b, k)
	if !ok || !impl.ValidArray(c) {
		t.Fatalf("JoinAxis(%v, %v, %d) = %v, %v", a, b, k, c, ok)
	}
	return c
}

// stack returns StackArrays of a call that has to succeed.
func stack(t *testing.T, a, b impl.Array) impl.Array {
	t.Helper()
	c, ok := impl.StackArrays(a, b)
	if !ok || !impl.ValidArray(c) {
		t.Fatalf("StackArrays(%v, %v) = %v, %v", a, b, c, ok)
	}
	return c
}

// cell returns CellOf of a call that has to succeed.
func cell(t *testing.T, a impl.Array, n int) impl.Array {
	t.Helper()
	b, ok := impl.CellOf(a, n)
	if !ok || !impl.ValidArray(b) {
		t.Fatalf("CellOf(%v, %d) = %v, %v", a, n, b, ok)
	}
	return b
}

// repeat returns RepeatAxis of a call that has to succeed.
func repeat(t *testing.T, a impl.Array, k int, times []int) impl.Array {
	t.Helper()
	b, ok := impl.RepeatAxis(a, k, times)
	if !ok || !impl.ValidArray(b) {
		t.Fatalf("RepeatAxis(%v, %d, %v) = %v, %v", a, k, times, b, ok)
	}
	return b
}

// expand returns ExpandAxis of a call that has to succeed.
func expand(t *testing.T, a impl.Array, k int, mask []int) impl.Array {
	t.Helper()
	b, ok := impl.ExpandAxis(a, k, mask)
	if !ok || !impl.ValidArray(b) {
		t.Fatalf("ExpandAxis(%v, %d, %v) = %v, %v", a, k, mask, b, ok)
	}
	return b
}

// wantNoJoin fails unless JoinAxis returns the zero value and false.
func wantNoJoin(t *testing.T, a, b impl.Array, k int) {
	t.Helper()
	if c, ok := impl.JoinAxis(a, b, k); ok || !isZero(c) {
		t.Errorf("JoinAxis(%v, %v, %d) = %v, %v", a, b, k, c, ok)
	}
}

// wantNoStack fails unless StackArrays returns the zero value and false.
func wantNoStack(t *testing.T, a, b impl.Array) {
	t.Helper()
	if c, ok := impl.StackArrays(a, b); ok || !isZero(c) {
		t.Errorf("StackArrays(%v, %v) = %v, %v", a, b, c, ok)
	}
}

// wantNoCell fails unless CellOf returns the zero value and false.
func wantNoCell(t *testing.T, a impl.Array, n int) {
	t.Helper()
	if b, ok := impl.CellOf(a, n); ok || !isZero(b) {
		t.Errorf("CellOf(%v, %d) = %v, %v", a, n, b, ok)
	}
}

// wantNoRepeat fails unless RepeatAxis returns the zero value and false.
func wantNoRepeat(t *testing.T, a impl.Array, k int, times []int) {
	t.Helper()
	if b, ok := impl.RepeatAxis(a, k, times); ok || !isZero(b) {
		t.Errorf("RepeatAxis(%v, %d, %v) = %v, %v", a, k, times, b, ok)
	}
}

// wantNoExpand fails unless ExpandAxis returns the zero value and false.
func wantNoExpand(t *testing.T, a impl.Array, k int, mask []int) {
	t.Helper()
	if b, ok := impl.ExpandAxis(a, k, mask); ok || !isZero(b) {
		t.Errorf("ExpandAxis(%v, %d, %v) = %v, %v", a, k, mask, b, ok)
	}
}

// fits reports whether a shape, none of whose other lengths is over the limit,
// is still valid with another length of an axis.
func fits(shape []int, k, length int) bool {
	return length <= impl.MaxItems && product(withLength(shape, k, length)) <= impl.MaxItems
}

// everyPair calls f for each axis of each sample and an array that differs in
// its numbers, and in the length of this axis; valid tells whether both joined
// are a valid array.
func everyPair(f func(a, b impl.Array, k int, valid bool)) {
	everyAxis(func(a impl.Array, k, length int) {
		for _, other := range []int{0, 1, 2, 3, 5, 15, 30, 59, impl.MaxItems} {
			if fits(a.Shape, k, other) {
				f(a, mixed(withLength(a.Shape, k, other)), k, fits(a.Shape, k, length+other))
			}
		}
	})
}

// everyJoin calls f for each pair that can be joined.
func everyJoin(f func(a, b impl.Array, k int)) {
	everyPair(func(a, b impl.Array, k int, valid bool) {
		if valid {
			f(a, b, k)
		}
	})
}

// everyStack calls f for samples that can be stacked, each with an array of the
// same shape.
func everyStack(f func(a, b impl.Array)) {
	for _, a := range mixedSamples() {
		if len(a.Shape) < impl.MaxRank && 2*len(a.Data) <= impl.MaxItems {
			f(a, filled(a.Shape))
		}
	}
}

// everyCell calls f for each index of the first axis of each sample.
func everyCell(f func(a impl.Array, n int)) {
	for _, a := range append(samples(), cube()) {
		if len(a.Shape) > 0 {
			for n := range a.Shape[0] {
				f(a, n)
			}
		}
	}
}

// timesOf are lists that tell how often each of some places is there.
func timesOf(length int) [][]int {
	var lists [][]int
	for _, f := range []func(i int) int{
		func(int) int { return 0 },
		func(int) int { return 1 },
		func(int) int { return 2 },
		func(i int) int { return i % 2 },
		func(i int) int { return (i + 1) % 3 },
		func(i int) int { return i },
		func(i int) int { return length - i },
		func(i int) int { return max(0, impl.MaxItems-impl.MaxItems*i) },
		func(i int) int { return max(0, 30-30*(length-1-i)) },
	} {
		list := make([]int, length)
		for i := range list {
			list[i] = f(i)
		}
		lists = append(lists, list)
	}
	return lists
}

// everyRepeat calls f for each axis of each sample and lists of numbers for it;
// valid tells whether the repeated array is valid.
func everyRepeat(f func(a impl.Array, k int, times []int, valid bool)) {
	everyAxis(func(a impl.Array, k, length int) {
		for _, times := range timesOf(length) {
			f(a, k, times, fits(a.Shape, k, sum(vector(times...))))
		}
	})
}

// zerosBetween returns a list with ones, each with some zeros in front of it,
// and some behind all.
func zerosBetween(ones int, before func(i int) int, behind int) []int {
	var mask []int
	for i := range ones {
		mask = append(mask, make([]int, before(i))...)
		mask = append(mask, 1)
	}
	return append(mask, make([]int, behind)...)
}

// masksOf are lists of zeros and so many ones.
func masksOf(ones int) [][]int {
	never := func(int) int { return 0 }
	lists := [][]int{
		zerosBetween(ones, never, 0),
		zerosBetween(ones, never, 1),
		zerosBetween(ones, never, 3),
		zerosBetween(ones, never, 60),
		zerosBetween(ones, func(i int) int { return max(0, 2-i) }, 0),
		zerosBetween(ones, func(int) int { return 1 }, 0),
		zerosBetween(ones, func(int) int { return 1 }, 1),
		zerosBetween(ones, func(i int) int { return i % 3 }, 2),
		zerosBetween(ones, func(i int) int { return max(0, 4-4*(ones-1-i)) }, 0),
	}
	if ones <= impl.MaxItems {
		lists = append(lists, zerosBetween(ones, never, impl.MaxItems-ones))
	}
	return lists
}

// everyExpand calls f for each axis of each sample and lists of zeros and ones
// for it; valid tells whether the expanded array is valid.
func everyExpand(f func(a impl.Array, k int, mask []int, valid bool)) {
	everyAxis(func(a impl.Array, k, length int) {
		for _, mask := range masksOf(length) {
			f(a, k, mask, fits(a.Shape, k, len(mask)))
		}
	})
}

func TestP20TakenAndDroppedPlacesAreEverything(t *testing.T) {
	everyAxis(func(a impl.Array, k, length int) {
		for n := range length + 1 {
			if b := join(t, take(t, a, k, n), impl.DropAxis(a, k, n), k); !equal(b, a) {
				t.Errorf("the first %d places of %v, and the others, joined: %v", n, a, b)
			}
			if b := join(t, impl.DropAxis(a, k, -n), take(t, a, k, -n), k); !equal(b, a) {
				t.Errorf("the last %d places of %v behind the others: %v", n, a, b)
			}
		}
	})
}

func TestP34ReductionsGoPartByPart(t *testing.T) {
	everyJoin(func(a, b impl.Array, k int) {
		if product(without(a.Shape, k)) > impl.MaxItems {
			return
		}
		for _, op := range []int{impl.OpMin, impl.OpMax} {
			one := reduce(t, op, join(t, a, b, k), k)
			other := combine(t, op, reduce(t, op, a, k), reduce(t, op, b, k))
			if !equal(one, other) {
				t.Errorf("%v and %v along %d: %v and %v", a, b, k, one, other)
			}
		}
	})
}

func TestP44InnerProductsGoRowByRow(t *testing.T) {
	others := append(matrices(), vector(3, -4), vector(1, 2, 3), vector(), cube(), mixed([]int{3, 2, 2}), impl.Array{Shape: []int{0, 60, 60}})
	for _, a := range matrices() {
		for _, b := range others {
			if shape, ok := innerShape(a, b); !ok || !isShape(shape) {
				continue
			}
			for _, f := range everyOp() {
				for _, g := range everyOp() {
					c := inner(t, f, g, a, b)
					for n := range a.Shape[0] {
						one, row := cell(t, c, n), inner(t, f, g, cell(t, a, n), b)
						if !equal(one, row) {
							t.Errorf("row %d of InnerProduct(%d, %d, %v, %v): %v and %v", n, f, g, a, b, one, row)
						}
					}
				}
			}
		}
	}
}

func TestP53JoinedArraysCanBeParted(t *testing.T) {
	everyJoin(func(a, b impl.Array, k int) {
		c := join(t, a, b, k)
		one, other := a.Shape[k], b.Shape[k]
		if !slices.Equal(c.Shape, withLength(a.Shape, k, one+other)) {
			t.Errorf("JoinAxis(%v, %v, %d) = %v", a, b, k, c)
		}
		if first := take(t, c, k, one); !equal(first, a) {
			t.Errorf("JoinAxis(%v, %v, %d) begins with %v", a, b, k, first)
		}
		if last := impl.DropAxis(c, k, one); !equal(last, b) {
			t.Errorf("JoinAxis(%v, %v, %d) ends with %v", a, b, k, last)
		}
		if last := take(t, c, k, -other); !equal(last, b) {
			t.Errorf("JoinAxis(%v, %v, %d) ends with %v", a, b, k, last)
		}
	})
}

func TestP53JoinedArraysFollowEachOther(t *testing.T) {
	a := impl.Array{Shape: []int{2, 1, 2}, Data: []int{1, 2, 3, 4}}
	b := impl.Array{Shape: []int{2, 1, 2}, Data: []int{5, 6, 7, 8}}
	empty := impl.Array{Shape: []int{2, 0, 2}}
	for _, x := range []struct {
		a, b impl.Array
		k    int
		want impl.Array
	}{
		{vector(1, 2), vector(3), 0, vector(1, 2, 3)},
		{vector(), vector(), 0, vector()},
		{vector(), vector(5), 0, vector(5)},
		{a, b, 0, impl.Array{Shape: []int{4, 1, 2}, Data: []int{1, 2, 3, 4, 5, 6, 7, 8}}},
		{a, b, 1, impl.Array{Shape: []int{2, 2, 2}, Data: []int{1, 2, 5, 6, 3, 4, 7, 8}}},
		{a, b, 2, impl.Array{Shape: []int{2, 1, 4}, Data: []int{1, 2, 5, 6, 3, 4, 7, 8}}},
		{a, empty, 1, a},
		{empty, b, 1, b},
		{filled([]int{2, 0}), filled([]int{3, 0}), 0, impl.Array{Shape: []int{5, 0}}},
		{filled([]int{60, 59, 0}), filled([]int{60, 1, 0}), 1, impl.Array{Shape: []int{60, 60, 0}}},
	} {
		if c := join(t, x.a, x.b, x.k); !equal(c, x.want) {
			t.Errorf("JoinAxis(%v, %v, %d) = %v", x.a, x.b, x.k, c)
		}
	}
}

func TestP53JoinsThatAreTooGreat(t *testing.T) {
	everyPair(func(a, b impl.Array, k int, valid bool) {
		if !valid {
			wantNoJoin(t, a, b, k)
			wantNoJoin(t, b, a, k)
		}
	})
	wantNoJoin(t, filled([]int{60, 60, 0}), filled([]int{1, 60, 0}), 0)
	wantNoJoin(t, filled([]int{31, 0}), filled([]int{30, 0}), 0)
	wantNoJoin(t, filled([]int{0, 30, 30}), filled([]int{0, 30, 31}), 2)
}

func TestP53OtherShapesAreNotJoined(t *testing.T) {
	for _, a := range samples() {
		for _, b := range samples() {
			for k := range a.Shape {
				if len(b.Shape) != len(a.Shape) || !slices.Equal(without(a.Shape, k), without(b.Shape, k)) {
					wantNoJoin(t, a, b, k)
				}
			}
		}
	}
	for _, x := range [][2][]int{{{2, 3}, {2, 2}}, {{0, 3}, {2, 4}}, {{2, 2, 3}, {2, 3, 2}}, {{2, 0, 3}, {2, 0, 4}}} {
		wantNoJoin(t, filled(x[0]), filled(x[1]), 0)
	}
}

func TestP53OtherArgumentsAreNotJoined(t *testing.T) {
	for _, a := range samples() {
		for _, k := range otherAxes(a) {
			wantNoJoin(t, a, a, k)
		}
	}
	for _, bad := range invalidArrays() {
		for _, good := range append(samples(), bad) {
			for k := range impl.MaxRank {
				wantNoJoin(t, bad, good, k)
				wantNoJoin(t, good, bad, k)
			}
		}
	}
}

// Two shapes that are not valid may be so when they are joined.
func TestP53InvalidPartsAreNotJoined(t *testing.T) {
	for _, x := range [][2]impl.Array{
		{{Shape: []int{-1}}, vector(1, 2)},
		{vector(1, 2), {Shape: []int{-1}}},
		{{Shape: []int{0, -1}}, {Shape: []int{0, 2}}},
		{{Shape: []int{2}, Data: []int{1}}, {Shape: []int{1}, Data: []int{2, 3}}},
		{{Shape: []int{2}, Data: []int{1, 2, 3}}, {Shape: []int{1}}},
	} {
		for k := range x[0].Shape {
			wantNoJoin(t, x[0], x[1], k)
		}
	}
}

func TestP54JoinedArraysCanBeReversed(t *testing.T) {
	everyJoin(func(a, b impl.Array, k int) {
		one := impl.ReverseAxis(join(t, a, b, k), k)
		other := join(t, impl.ReverseAxis(b, k), impl.ReverseAxis(a, k), k)
		if !equal(one, other) {
			t.Errorf("%v and %v along %d: %v and %v", a, b, k, one, other)
		}
	})
}

func TestP55StackedArraysAreCells(t *testing.T) {
	everyStack(func(a, b impl.Array) {
		c := stack(t, a, b)
		if !slices.Equal(c.Shape, append([]int{2}, a.Shape...)) {
			t.Errorf("StackArrays(%v, %v) = %v", a, b, c)
		}
		if one, other := cell(t, c, 0), cell(t, c, 1); !equal(one, a) || !equal(other, b) {
			t.Errorf("StackArrays(%v, %v) has the cells %v and %v", a, b, one, other)
		}
	})
	want := impl.Array{Shape: []int{2, 2}, Data: []int{1, 2, 3, 4}}
	if c := stack(t, vector(1, 2), vector(3, 4)); !equal(c, want) {
		t.Errorf("StackArrays = %v", c)
	}
	if c := stack(t, impl.ScalarOf(7), impl.ScalarOf(-8)); !equal(c, vector(7, -8)) {
		t.Errorf("StackArrays(7, -8) = %v", c)
	}
	if c := stack(t, filled([]int{60, 0}), filled([]int{60, 0})); !equal(c, impl.Array{Shape: []int{2, 60, 0}}) {
		t.Errorf("StackArrays of nothing = %v", c)
	}
}

func TestP55OtherArraysAreNotStacked(t *testing.T) {
	for _, a := range samples() {
		for _, b := range samples() {
			if !slices.Equal(a.Shape, b.Shape) {
				wantNoStack(t, a, b)
			}
		}
		if len(a.Shape) == impl.MaxRank || len(a.Data) > impl.MaxItems/2 {
			wantNoStack(t, a, a)
		}
	}
	for _, x := range [][2][]int{{nil, {1}}, {{1}, nil}, {{6}, {2, 3}}, {{2}, {3}}, {{0}, {0, 0}},
		{{31}, {31}}, {{4, 8}, {4, 8}}, {{1, 1, 1}, {1, 1, 1}}, {{0, 0, 0}, {0, 0, 0}}} {
		wantNoStack(t, filled(x[0]), filled(x[1]))
	}
	for _, bad := range invalidArrays() {
		for _, good := range append(samples(), bad) {
			wantNoStack(t, bad, good)
			wantNoStack(t, good, bad)
		}
	}
}

func TestP56CellsAreParts(t *testing.T) {
	everyCell(func(a impl.Array, n int) {
		b := cell(t, a, n)
		size := product(a.Shape[1:])
		if !slices.Equal(b.Shape, a.Shape[1:]) || !slices.Equal(b.Data, a.Data[n*size:(n+1)*size]) {
			t.Errorf("CellOf(%v, %d) = %v", a, n, b)
		}
	})
	want := impl.Array{Shape: []int{3, 4}, Data: []int{13, 14, 15, 16, 17, 18, 19, 20, 21, 22, 23, 24}}
	if b := cell(t, cube(), 1); !equal(b, want) {
		t.Errorf("CellOf(cube, 1) = %v", b)
	}
	if b := cell(t, vector(7, 8), 1); !equal(b, impl.ScalarOf(8)) {
		t.Errorf("CellOf([7 8], 1) = %v", b)
	}
	if b := cell(t, filled([]int{60, 60, 0}), 59); !equal(b, impl.Array{Shape: []int{60, 0}}) {
		t.Errorf("CellOf(nothing, 59) = %v", b)
	}
}

func TestP56OtherCellsAreNotThere(t *testing.T) {
	for _, a := range samples() {
		others := []int{-1, math.MaxInt, math.MinInt, impl.MaxItems}
		if len(a.Shape) == 0 {
			others = append(others, 0, 1)
		} else {
			others = append(others, a.Shape[0], a.Shape[0]+1, -a.Shape[0]-1)
		}
		for _, n := range others {
			wantNoCell(t, a, n)
		}
	}
	for _, a := range invalidArrays() {
		for _, n := range []int{0, 1, -1} {
			wantNoCell(t, a, n)
		}
	}
}

func TestP57RepeatingOnceChangesNothing(t *testing.T) {
	everyAxis(func(a impl.Array, k, length int) {
		if b := repeat(t, a, k, slices.Repeat([]int{1}, length)); !equal(b, a) {
			t.Errorf("%v repeated once along %d: %v", a, k, b)
		}
	})
	everyRepeat(func(a impl.Array, k int, times []int, valid bool) {
		if !valid {
			return
		}
		var from []int
		for i, n := range times {
			from = append(from, slices.Repeat([]int{i}, n)...)
		}
		b := repeat(t, a, k, times)
		want := seen(a, k, sum(vector(times...)), func(i int) int { return from[i] })
		if !equal(b, want) {
			t.Errorf("RepeatAxis(%v, %d, %v) = %v", a, k, times, b)
		}
	})
}

func TestP57PlacesAreRepeatedInOrder(t *testing.T) {
	m := impl.Array{Shape: []int{2, 3}, Data: []int{1, 2, 3, 4, 5, 6}}
	for _, x := range []struct {
		a     impl.Array
		k     int
		times []int
		want  impl.Array
	}{
		{vector(7, 8, 9), 0, []int{2, 0, 1}, vector(7, 7, 9)},
		{vector(7, 8, 9), 0, []int{0, 0, 0}, vector()},
		{vector(7), 0, []int{60}, vector(slices.Repeat([]int{7}, 60)...)},
		{vector(), 0, nil, vector()},
		{m, 0, []int{0, 2}, impl.Array{Shape: []int{2, 3}, Data: []int{4, 5, 6, 4, 5, 6}}},
		{m, 1, []int{1, 0, 2}, impl.Array{Shape: []int{2, 3}, Data: []int{1, 3, 3, 4, 6, 6}}},
		{filled([]int{2, 0}), 0, []int{30, 30}, impl.Array{Shape: []int{60, 0}}},
		{filled([]int{60, 60, 0}), 0, make([]int, 60), impl.Array{Shape: []int{0, 60, 0}}},
	} {
		if b := repeat(t, x.a, x.k, x.times); !equal(b, x.want) {
			t.Errorf("RepeatAxis(%v, %d, %v) = %v", x.a, x.k, x.times, b)
		}
	}
}

func TestP57TooManyPlacesAreNotRepeated(t *testing.T) {
	everyRepeat(func(a impl.Array, k int, times []int, valid bool) {
		if !valid {
			wantNoRepeat(t, a, k, times)
		}
	})
	wantNoRepeat(t, filled([]int{2}), 0, []int{60, 1})
	wantNoRepeat(t, filled([]int{2, 0}), 0, []int{30, 31})
	wantNoRepeat(t, filled([]int{60}), 0, slices.Repeat([]int{60}, 60))
	wantNoRepeat(t, filled([]int{2, 1, 5}), 1, []int{7})
}

func TestP57OtherArgumentsAreNotRepeated(t *testing.T) {
	everyAxis(func(a impl.Array, k, length int) {
		ones := slices.Repeat([]int{1}, length)
		wantNoRepeat(t, a, k, append(slices.Clone(ones), 0))
		wantNoRepeat(t, a, k, append(slices.Clone(ones), 1))
		if length > 0 {
			wantNoRepeat(t, a, k, ones[1:])
			wantNoRepeat(t, a, k, nil)
		}
		for _, n := range []int{-1, impl.MaxItems + 1, math.MaxInt, math.MinInt} {
			for i := range ones {
				times := make([]int, length)
				times[i] = n
				wantNoRepeat(t, a, k, times)
			}
		}
	})
	for _, a := range samples() {
		for _, k := range otherAxes(a) {
			for _, times := range [][]int{nil, {1}, {1, 1}, slices.Repeat([]int{1}, len(a.Data))} {
				wantNoRepeat(t, a, k, times)
			}
		}
	}
	for _, a := range invalidArrays() {
		for k, length := range a.Shape {
			wantNoRepeat(t, a, k, slices.Repeat([]int{1}, min(max(length, 0), 100)))
		}
		wantNoRepeat(t, a, 0, nil)
	}
	// A number that is too small does not make up for one that is too great.
	wantNoRepeat(t, vector(1, 2), 0, []int{3, -1})
	wantNoRepeat(t, vector(1, 2), 0, []int{-1, 3})
}

func TestP58RepeatedNumbersAreNotNew(t *testing.T) {
	for _, v := range vectors() {
		for _, times := range timesOf(len(v.Data)) {
			if slices.Contains(times, 0) || sum(vector(times...)) > impl.MaxItems {
				continue
			}
			if one, other := unique(t, repeat(t, v, 0, times)), unique(t, v); !equal(one, other) {
				t.Errorf("%v repeated %v: %v and %v", v, times, one, other)
			}
		}
	}
}

func TestP59ExpandedArraysCanBeCompressed(t *testing.T) {
	everyExpand(func(a impl.Array, k int, mask []int, valid bool) {
		if !valid {
			return
		}
		if b := repeat(t, expand(t, a, k, mask), k, mask); !equal(b, a) {
			t.Errorf("%v expanded along %d with %v, and compressed: %v", a, k, mask, b)
		}
	})
}

func TestP60WhatIsNewIsZero(t *testing.T) {
	everyExpand(func(a impl.Array, k int, mask []int, valid bool) {
		if !valid {
			return
		}
		b := expand(t, a, k, mask)
		want := seen(a, k, len(mask), func(i int) int {
			if mask[i] == 0 {
				return -1
			}
			return sum(vector(mask[:i]...))
		})
		if !equal(b, want) {
			t.Errorf("ExpandAxis(%v, %d, %v) = %v", a, k, mask, b)
		}
	})
}

func TestP60ZerosAreBetweenPlaces(t *testing.T) {
	m := impl.Array{Shape: []int{2, 2}, Data: []int{1, 2, 3, 4}}
	for _, x := range []struct {
		a    impl.Array
		k    int
		mask []int
		want impl.Array
	}{
		{vector(7, 8), 0, []int{1, 0, 1}, vector(7, 0, 8)},
		{vector(7, 8), 0, []int{0, 0, 1, 0, 0, 1, 0}, vector(0, 0, 7, 0, 0, 8, 0)},
		{vector(), 0, nil, vector()},
		{vector(), 0, make([]int, 60), vector(make([]int, 60)...)},
		{m, 0, []int{1, 0, 1}, impl.Array{Shape: []int{3, 2}, Data: []int{1, 2, 0, 0, 3, 4}}},
		{m, 1, []int{1, 0, 1}, impl.Array{Shape: []int{2, 3}, Data: []int{1, 0, 2, 3, 0, 4}}},
		{m, 1, []int{0, 1, 1}, impl.Array{Shape: []int{2, 3}, Data: []int{0, 1, 2, 0, 3, 4}}},
		{filled([]int{2, 0}), 1, []int{0, 0}, impl.Array{Shape: []int{2, 2}, Data: make([]int, 4)}},
		{filled([]int{2, 0}), 0, []int{0, 1, 1}, impl.Array{Shape: []int{3, 0}}},
	} {
		if b := expand(t, x.a, x.k, x.mask); !equal(b, x.want) {
			t.Errorf("ExpandAxis(%v, %d, %v) = %v", x.a, x.k, x.mask, b)
		}
	}
}

func TestP60ArraysThatAreTooGreatAreNotExpanded(t *testing.T) {
	everyExpand(func(a impl.Array, k int, mask []int, valid bool) {
		if !valid {
			wantNoExpand(t, a, k, mask)
		}
	})
	wantNoExpand(t, vector(), 0, make([]int, 61))
	wantNoExpand(t, filled([]int{0, 60}), 0, make([]int, 2))
	wantNoExpand(t, filled([]int{60, 60, 0}), 2, []int{0})
	wantNoExpand(t, filled([]int{2, 0}), 0, zerosBetween(2, func(int) int { return 0 }, 59))
}

func TestP60OtherArgumentsAreNotExpanded(t *testing.T) {
	everyAxis(func(a impl.Array, k, length int) {
		ones := slices.Repeat([]int{1}, length)
		wantNoExpand(t, a, k, append(slices.Clone(ones), 1))
		if length > 0 {
			wantNoExpand(t, a, k, nil)
			wantNoExpand(t, a, k, ones[1:])
			wantNoExpand(t, a, k, append(slices.Clone(ones[1:]), 0))
		}
		for _, n := range []int{-1, 2, impl.MaxItems, math.MaxInt, math.MinInt} {
			wantNoExpand(t, a, k, append(slices.Clone(ones), n))
			wantNoExpand(t, a, k, append([]int{n}, ones...))
			if length > 0 {
				wantNoExpand(t, a, k, append([]int{n}, ones[1:]...))
			}
		}
	})
	wantNoExpand(t, vector(7, 8), 0, []int{2})
	wantNoExpand(t, vector(7, 8), 0, []int{2, 0})
	wantNoExpand(t, vector(7, 8), 0, []int{1, 2, -1})
	for _, a := range samples() {
		for _, k := range otherAxes(a) {
			for _, mask := range [][]int{nil, {0}, {1}, slices.Repeat([]int{1}, len(a.Data))} {
				wantNoExpand(t, a, k, mask)
			}
		}
	}
	for _, a := range invalidArrays() {
		for k, length := range a.Shape {
			wantNoExpand(t, a, k, slices.Repeat([]int{1}, min(max(length, 0), 100)))
		}
		wantNoExpand(t, a, 0, nil)
	}
}

func TestP143ReductionsOfTheFirstAxisGoOverCells(t *testing.T) {
	everyStack(func(a, b impl.Array) {
		for _, op := range everyOp() {
			one, other := reduce(t, op, stack(t, a, b), 0), combine(t, op, a, b)
			if !equal(one, other) {
				t.Errorf("%d: %v and %v: %v and %v", op, a, b, one, other)
			}
		}
	})
}

func TestP151JoiningCanBeRegrouped(t *testing.T) {
	everyJoin(func(a, b impl.Array, k int) {
		for _, length := range []int{0, 1, 2, 7} {
			if !fits(a.Shape, k, a.Shape[k]+b.Shape[k]+length) {
				continue
			}
			c := filled(withLength(a.Shape, k, length))
			one, other := join(t, join(t, a, b, k), c, k), join(t, a, join(t, b, c, k), k)
			if !equal(one, other) {
				t.Errorf("%v, %v and %v along %d: %v and %v", a, b, c, k, one, other)
			}
		}
	})
}

func TestP158StackedNumbersFollowEachOther(t *testing.T) {
	everyStack(func(a, b impl.Array) {
		one, other := impl.Ravel(stack(t, a, b)), join(t, impl.Ravel(a), impl.Ravel(b), 0)
		if !equal(one, other) || !slices.Equal(one.Data, slices.Concat(a.Data, b.Data)) {
			t.Errorf("%v and %v: %v and %v", a, b, one, other)
		}
	})
}

func TestP159CellsAreShortParts(t *testing.T) {
	everyCell(func(a impl.Array, n int) {
		one := impl.Ravel(cell(t, a, n))
		other := impl.Ravel(take(t, impl.DropAxis(a, 0, n), 0, 1))
		if !impl.ValidArray(one) || !equal(one, other) {
			t.Errorf("CellOf(%v, %d): %v and %v", a, n, one, other)
		}
	})
}

func TestJoinedArraysAreFresh(t *testing.T) {
	for _, sample := range samples() {
		a := impl.Array{Shape: roomy(sample.Shape), Data: roomy(sample.Data)}
		b := impl.Array{Shape: roomy(sample.Shape), Data: roomy(sample.Data)}
		lists := [][]int{a.Shape, a.Data, b.Shape, b.Data}
		for _, length := range a.Shape {
			lists = append(lists, roomy(slices.Repeat([]int{1}, length)))
		}
		before := wholes(lists)
		arguments := slices.Clone(lists)
		keep := func(c impl.Array, _ bool) {
			lists = append(lists, c.Shape, c.Data)
		}
		for range 2 {
			keep(impl.StackArrays(a, b))
			keep(impl.StackArrays(a, a))
			keep(impl.CellOf(a, 0))
			for k := range a.Shape {
				empty := impl.DropAxis(a, k, a.Shape[k])
				keep(impl.JoinAxis(a, b, k))
				keep(impl.JoinAxis(a, a, k))
				keep(impl.JoinAxis(a, empty, k))
				keep(impl.JoinAxis(empty, a, k))
				keep(impl.RepeatAxis(a, k, arguments[4+k]))
				keep(impl.ExpandAxis(a, k, arguments[4+k]))
			}
		}
		wantKept(t, arguments, before)
		wantApart(t, "joins", lists...)
	}
}
