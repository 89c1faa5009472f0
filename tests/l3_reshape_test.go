package tests

import (
	"math"
	"slices"
	"testing"

	"loop.example/arraylanguage/impl"
)

// vector returns numbers as an array with one axis.
func vector(n ...int) impl.Array {
	return impl.Array{Shape: []int{len(n)}, Data: n}
}

// otherAxes are numbers that no axis of an array has.
func otherAxes(a impl.Array) []int {
	return []int{-1, len(a.Shape), len(a.Shape) + 1, math.MaxInt, math.MinInt}
}

// otherCounts are numbers of places that cannot be taken or dropped.
func otherCounts() []int {
	return []int{impl.MaxItems + 1, -impl.MaxItems - 1, 1000, -1000, math.MaxInt, math.MinInt}
}

// everyAxis calls f for each axis of each sample.
func everyAxis(f func(a impl.Array, k, length int)) {
	for _, a := range samples() {
		for k, length := range a.Shape {
			f(a, k, length)
		}
	}
}

// withLength returns a shape with another length of an axis.
func withLength(shape []int, k, length int) []int {
	out := slices.Clone(shape)
	out[k] = length
	return out
}

// seen returns an array in which each place has what is at the index from(i)
// of axis k of another one, i being its own index, or 0 if nothing is there.
func seen(a impl.Array, k, length int, from func(i int) int) impl.Array {
	b := impl.Array{Shape: withLength(a.Shape, k, length)}
	for _, place := range placesIn(b.Shape) {
		place[k] = from(place[k])
		n, _ := impl.ItemAt(a, place)
		b.Data = append(b.Data, n)
	}
	return b
}

// take returns TakeAxis of a call that has to succeed.
func take(t *testing.T, a impl.Array, k, n int) impl.Array {
	t.Helper()
	b, ok := impl.TakeAxis(a, k, n)
	if !ok || !impl.ValidArray(b) {
		t.Fatalf("TakeAxis(%v, %d, %d) = %v, %v", a, k, n, b, ok)
	}
	return b
}

// reshape returns Reshape of a call that has to succeed.
func reshape(t *testing.T, shape []int, a impl.Array) impl.Array {
	t.Helper()
	b, ok := impl.Reshape(shape, a)
	if !ok || !impl.ValidArray(b) {
		t.Fatalf("Reshape(%v, %v) = %v, %v", shape, a, b, ok)
	}
	return b
}

func TestP2RanksAreNumbersOfAxes(t *testing.T) {
	for _, a := range samples() {
		if n := impl.RankOf(a); n != len(a.Shape) || n > impl.MaxRank {
			t.Errorf("RankOf(%v) = %d", a, n)
		}
		if n := impl.RankOf(impl.Ravel(a)); n != 1 {
			t.Errorf("the rank of Ravel(%v) is %d", a, n)
		}
	}
	for _, a := range invalidArrays() {
		if n := impl.RankOf(a); n != -1 {
			t.Errorf("RankOf(%v) = %d", a, n)
		}
	}
}

func TestP5VectorsAreRaveled(t *testing.T) {
	for _, a := range samples() {
		b := impl.Ravel(a)
		if !slices.Equal(b.Shape, []int{len(a.Data)}) || !slices.Equal(b.Data, a.Data) {
			t.Errorf("Ravel(%v) = %v", a, b)
		}
		v := impl.VectorOf(a.Data)
		if !slices.Equal(v.Data, a.Data) || !equal(v, b) || !equal(impl.Ravel(v), v) {
			t.Errorf("VectorOf(%v) = %v, Ravel of it = %v", a.Data, v, impl.Ravel(v))
		}
	}
}

func TestP5InvalidArraysAreNotRaveled(t *testing.T) {
	for _, a := range invalidArrays() {
		if b := impl.Ravel(a); !isZero(b) {
			t.Errorf("Ravel(%v) = %v", a, b)
		}
	}
}

func TestP13ShapesCanBeChanged(t *testing.T) {
	arrays := []impl.Array{
		impl.ScalarOf(-7), vector(), vector(5), filled([]int{4}), filled([]int{7}),
		filled([]int{impl.MaxItems}), filled([]int{2, 3}), filled([]int{0, 60}), filled([]int{2, 3, 4}),
	}
	validShapes(func(shape []int) {
		for _, a := range arrays {
			b, ok := impl.Reshape(shape, a)
			if !ok || !slices.Equal(b.Shape, shape) || len(b.Data) != product(shape) {
				t.Fatalf("Reshape(%v, %v) = %v, %v", shape, a, b, ok)
			}
			for i, n := range b.Data {
				if len(a.Data) > 0 && n != a.Data[i%len(a.Data)] {
					t.Fatalf("Reshape(%v, %v) has %d at %d", shape, a, n, i)
				}
			}
		}
	})
}

func TestP13TooFewNumbersComeAgain(t *testing.T) {
	want := impl.Array{Shape: []int{2, 3}, Data: []int{7, 8, 9, 5, 7, 8}}
	if b, ok := impl.Reshape([]int{2, 3}, vector(7, 8, 9, 5)); !ok || !equal(b, want) {
		t.Errorf("Reshape = %v, %v", b, ok)
	}
	want = impl.Array{Data: []int{7}}
	for _, shape := range [][]int{nil, {}} {
		if b, ok := impl.Reshape(shape, vector(7, 8, 9)); !ok || !equal(b, want) {
			t.Errorf("Reshape without axes = %v, %v", b, ok)
		}
	}
}

func TestP13NoNumbersBecomeZeros(t *testing.T) {
	for _, empty := range [][]int{{0}, {0, 0}, {60, 0}, {60, 60, 0}, {0, 3, 2}} {
		for _, shape := range [][]int{nil, {0}, {1}, {60}, {2, 3}, {3, 4, 5}, {5, 0}} {
			b, ok := impl.Reshape(shape, impl.Array{Shape: empty})
			want := impl.Array{Shape: shape, Data: make([]int, product(shape))}
			if !ok || !equal(b, want) {
				t.Errorf("Reshape(%v, nothing in %v) = %v, %v", shape, empty, b, ok)
			}
		}
	}
}

func TestP13OtherShapesAndArrays(t *testing.T) {
	for _, shape := range invalidShapes() {
		for _, a := range samples() {
			if b, ok := impl.Reshape(shape, a); ok || !isZero(b) {
				t.Errorf("Reshape(%v, %v) = %v, %v", shape, a, b, ok)
			}
		}
	}
	for _, shape := range [][]int{nil, {0}, {1}, {2, 2}, {3, 4, 5}} {
		for _, a := range invalidArrays() {
			if b, ok := impl.Reshape(shape, a); ok || !isZero(b) {
				t.Errorf("Reshape(%v, %v) = %v, %v", shape, a, b, ok)
			}
		}
	}
}

func TestP14TheOwnShapeChangesNothing(t *testing.T) {
	for _, a := range samples() {
		if b := reshape(t, a.Shape, a); !equal(b, a) {
			t.Errorf("Reshape(%v, %v) = %v", a.Shape, a, b)
		}
	}
}

func TestP15RavelingKeepsNumbers(t *testing.T) {
	for _, a := range samples() {
		if b := reshape(t, a.Shape, impl.Ravel(a)); !equal(b, a) {
			t.Errorf("Reshape of Ravel(%v) = %v", a, b)
		}
	}
}

func TestP16ReversingTwiceChangesNothing(t *testing.T) {
	everyAxis(func(a impl.Array, k, length int) {
		b := impl.ReverseAxis(a, k)
		if want := seen(a, k, length, func(i int) int { return length - 1 - i }); !equal(b, want) {
			t.Errorf("ReverseAxis(%v, %d) = %v", a, k, b)
		}
		if back := impl.ReverseAxis(b, k); !equal(back, a) {
			t.Errorf("ReverseAxis of ReverseAxis(%v, %d) = %v", a, k, back)
		}
	})
}

func TestP16NothingIsReversed(t *testing.T) {
	for _, a := range samples() {
		for _, k := range otherAxes(a) {
			if b := impl.ReverseAxis(a, k); !isZero(b) {
				t.Errorf("ReverseAxis(%v, %d) = %v", a, k, b)
			}
		}
	}
	for _, a := range invalidArrays() {
		for k := range impl.MaxRank {
			if b := impl.ReverseAxis(a, k); !isZero(b) {
				t.Errorf("ReverseAxis(%v, %d) = %v", a, k, b)
			}
		}
	}
}

func TestP17AxesAreReversedOneByOne(t *testing.T) {
	everyAxis(func(a impl.Array, k, _ int) {
		for j := range a.Shape {
			one := impl.ReverseAxis(impl.ReverseAxis(a, k), j)
			other := impl.ReverseAxis(impl.ReverseAxis(a, j), k)
			if !impl.ValidArray(one) || !equal(one, other) {
				t.Errorf("ReverseAxis of %v along %d and %d: %v and %v", a, k, j, one, other)
			}
		}
	})
	m := impl.Array{Shape: []int{2, 3}, Data: []int{1, 2, 3, 4, 5, 6}}
	want := impl.Array{Shape: []int{2, 3}, Data: []int{6, 5, 4, 3, 2, 1}}
	if b := impl.ReverseAxis(impl.ReverseAxis(m, 0), 1); !equal(b, want) {
		t.Errorf("both axes reversed: %v", b)
	}
}

// turns are numbers of places to rotate by: small ones, and the limits.
func turns() []int {
	list := []int{61, -61, 1000, -999, impl.MaxNum, impl.MaxNum - 1, -impl.MaxNum, 1 - impl.MaxNum}
	for n := -8; n <= 8; n++ {
		list = append(list, n)
	}
	return list
}

func TestP18RotationsCanBeUndone(t *testing.T) {
	everyAxis(func(a impl.Array, k, length int) {
		for _, n := range turns() {
			b := impl.RotateAxis(a, k, n)
			if !impl.ValidArray(b) {
				t.Fatalf("RotateAxis(%v, %d, %d) = %v", a, k, n, b)
			}
			if back := impl.RotateAxis(b, k, -n); !equal(back, a) {
				t.Errorf("RotateAxis(%v, %d, %d) = %v and back %v", a, k, n, b, back)
			}
		}
		for _, n := range []int{length, -length} {
			if b := impl.RotateAxis(a, k, n); !equal(b, a) {
				t.Errorf("RotateAxis(%v, %d, %d) = %v", a, k, n, b)
			}
		}
	})
}

func TestP18PlacesHaveWhatWasBehindThem(t *testing.T) {
	everyAxis(func(a impl.Array, k, length int) {
		for _, n := range turns() {
			from := func(i int) int { return ((i+n)%length + length) % length }
			if b := impl.RotateAxis(a, k, n); !equal(b, seen(a, k, length, from)) {
				t.Errorf("RotateAxis(%v, %d, %d) = %v", a, k, n, b)
			}
		}
	})
	v := vector(10, 11, 12, 13, 14, 15, 16)
	for n, want := range map[int]impl.Array{
		1:            vector(11, 12, 13, 14, 15, 16, 10),
		-1:           vector(16, 10, 11, 12, 13, 14, 15),
		impl.MaxNum:  vector(11, 12, 13, 14, 15, 16, 10), // 142857 times 7, and 1
		-impl.MaxNum: vector(16, 10, 11, 12, 13, 14, 15),
	} {
		if b := impl.RotateAxis(v, 0, n); !equal(b, want) {
			t.Errorf("RotateAxis(%v, 0, %d) = %v", v, n, b)
		}
	}
}

func TestP18NothingIsRotated(t *testing.T) {
	for _, a := range samples() {
		for _, k := range otherAxes(a) {
			if b := impl.RotateAxis(a, k, 1); !isZero(b) {
				t.Errorf("RotateAxis(%v, %d, 1) = %v", a, k, b)
			}
		}
		for k := range a.Shape {
			for _, n := range beyond() {
				if b := impl.RotateAxis(a, k, n); !isZero(b) {
					t.Errorf("RotateAxis(%v, %d, %d) = %v", a, k, n, b)
				}
			}
		}
	}
	for _, a := range invalidArrays() {
		for k := range impl.MaxRank {
			if b := impl.RotateAxis(a, k, 0); !isZero(b) {
				t.Errorf("RotateAxis(%v, %d, 0) = %v", a, k, b)
			}
		}
	}
}

func TestP19RotationsAddUp(t *testing.T) {
	everyAxis(func(a impl.Array, k, _ int) {
		for _, n := range turns() {
			if n == impl.MaxNum {
				continue // one more is not valid
			}
			steps := impl.RotateAxis(impl.RotateAxis(a, k, n), k, 1)
			if once := impl.RotateAxis(a, k, n+1); !impl.ValidArray(once) || !equal(steps, once) {
				t.Errorf("RotateAxis(%v, %d, %d) and by 1: %v and %v", a, k, n, steps, once)
			}
		}
	})
}

func TestP21TheEndCanBeTaken(t *testing.T) {
	everyAxis(func(a impl.Array, k, length int) {
		for n := range impl.MaxItems + 1 {
			if product(withLength(a.Shape, k, n)) > impl.MaxItems {
				continue
			}
			first, last := take(t, a, k, n), take(t, a, k, -n)
			reversed := impl.ReverseAxis(take(t, impl.ReverseAxis(a, k), k, n), k)
			if !equal(last, reversed) {
				t.Errorf("TakeAxis(%v, %d, %d) = %v, and reversed %v", a, k, -n, last, reversed)
			}
			if want := seen(a, k, n, func(i int) int { return i }); !equal(first, want) {
				t.Errorf("TakeAxis(%v, %d, %d) = %v", a, k, n, first)
			}
			if want := seen(a, k, n, func(i int) int { return length - n + i }); !equal(last, want) {
				t.Errorf("TakeAxis(%v, %d, %d) = %v", a, k, -n, last)
			}
		}
	})
}

func TestP22LongPartsHaveZeros(t *testing.T) {
	everyAxis(func(a impl.Array, k, length int) {
		for n := -impl.MaxItems; n <= impl.MaxItems; n++ {
			places := max(n, -n)
			if product(withLength(a.Shape, k, places)) > impl.MaxItems {
				continue
			}
			b := take(t, a, k, n)
			if b.Shape[k] != places {
				t.Errorf("TakeAxis(%v, %d, %d) has the shape %v", a, k, n, b.Shape)
			}
			if places >= length && sum(b) != sum(a) {
				t.Errorf("the sum of TakeAxis(%v, %d, %d) is %d", a, k, n, sum(b))
			}
		}
	})
	m := impl.Array{Shape: []int{2, 2}, Data: []int{1, 2, 3, 4}}
	for _, x := range []struct {
		k, n int
		want impl.Array
	}{
		{0, 3, impl.Array{Shape: []int{3, 2}, Data: []int{1, 2, 3, 4, 0, 0}}},
		{0, -3, impl.Array{Shape: []int{3, 2}, Data: []int{0, 0, 1, 2, 3, 4}}},
		{1, 3, impl.Array{Shape: []int{2, 3}, Data: []int{1, 2, 0, 3, 4, 0}}},
		{1, -3, impl.Array{Shape: []int{2, 3}, Data: []int{0, 1, 2, 0, 3, 4}}},
	} {
		if b := take(t, m, x.k, x.n); !equal(b, x.want) {
			t.Errorf("TakeAxis(%v, %d, %d) = %v", m, x.k, x.n, b)
		}
	}
}

// sum returns the sum of the numbers of an array.
func sum(a impl.Array) int {
	total := 0
	for _, n := range a.Data {
		total += n
	}
	return total
}

func TestP22PlacesThatAreMissingAreZeros(t *testing.T) {
	for _, n := range []int{impl.MaxItems, -impl.MaxItems, 1, -1, 0} {
		want := vector(make([]int, max(n, -n))...)
		if b := take(t, vector(), 0, n); !equal(b, want) {
			t.Errorf("TakeAxis(nothing, 0, %d) = %v", n, b)
		}
	}
	want := impl.Array{Shape: []int{3, 20}, Data: make([]int, 60)}
	if b := take(t, impl.Array{Shape: []int{3, 0}}, 1, -20); !equal(b, want) {
		t.Errorf("TakeAxis = %v", b)
	}
}

func TestP22NothingIsTaken(t *testing.T) {
	for _, a := range samples() {
		for _, k := range otherAxes(a) {
			for _, n := range []int{0, 1, -1} {
				if b, ok := impl.TakeAxis(a, k, n); ok || !isZero(b) {
					t.Errorf("TakeAxis(%v, %d, %d) = %v, %v", a, k, n, b, ok)
				}
			}
		}
		for k := range a.Shape {
			for _, n := range otherCounts() {
				if b, ok := impl.TakeAxis(a, k, n); ok || !isZero(b) {
					t.Errorf("TakeAxis(%v, %d, %d) = %v, %v", a, k, n, b, ok)
				}
			}
		}
	}
	for _, a := range invalidArrays() {
		for k := range impl.MaxRank {
			if b, ok := impl.TakeAxis(a, k, 0); ok || !isZero(b) {
				t.Errorf("TakeAxis(%v, %d, 0) = %v, %v", a, k, b, ok)
			}
		}
	}
}

func TestP22TooManyNumbersAreNotTaken(t *testing.T) {
	everyAxis(func(a impl.Array, k, _ int) {
		for n := -impl.MaxItems; n <= impl.MaxItems; n++ {
			if product(withLength(a.Shape, k, max(n, -n))) <= impl.MaxItems {
				continue
			}
			if b, ok := impl.TakeAxis(a, k, n); ok || !isZero(b) {
				t.Errorf("TakeAxis(%v, %d, %d) = %v, %v", a, k, n, b, ok)
			}
		}
	})
}

func TestP23DroppingShortens(t *testing.T) {
	everyAxis(func(a impl.Array, k, length int) {
		for n := range impl.MaxItems + 1 {
			left := max(length-n, 0)
			first, last := impl.DropAxis(a, k, n), impl.DropAxis(a, k, -n)
			if want := seen(a, k, left, func(i int) int { return n + i }); !equal(first, want) {
				t.Errorf("DropAxis(%v, %d, %d) = %v", a, k, n, first)
			}
			if want := seen(a, k, left, func(i int) int { return i }); !equal(last, want) {
				t.Errorf("DropAxis(%v, %d, %d) = %v", a, k, -n, last)
			}
		}
	})
}

func TestP23BothEndsCanBeDroppedInAnyOrder(t *testing.T) {
	counts := []int{0, 1, 2, 3, 5, impl.MaxItems}
	everyAxis(func(a impl.Array, k, _ int) {
		for _, n := range counts {
			for _, m := range counts {
				one := impl.DropAxis(impl.DropAxis(a, k, n), k, -m)
				other := impl.DropAxis(impl.DropAxis(a, k, -m), k, n)
				if !impl.ValidArray(one) || !equal(one, other) {
					t.Errorf("DropAxis of %v by %d and %d: %v and %v", a, n, -m, one, other)
				}
			}
		}
	})
}

func TestP23NothingIsDropped(t *testing.T) {
	for _, a := range samples() {
		for _, k := range otherAxes(a) {
			for _, n := range []int{0, 1, -1} {
				if b := impl.DropAxis(a, k, n); !isZero(b) {
					t.Errorf("DropAxis(%v, %d, %d) = %v", a, k, n, b)
				}
			}
		}
		for k := range a.Shape {
			for _, n := range otherCounts() {
				if b := impl.DropAxis(a, k, n); !isZero(b) {
					t.Errorf("DropAxis(%v, %d, %d) = %v", a, k, n, b)
				}
			}
		}
	}
	for _, a := range invalidArrays() {
		for k := range impl.MaxRank {
			if b := impl.DropAxis(a, k, 0); !isZero(b) {
				t.Errorf("DropAxis(%v, %d, 0) = %v", a, k, b)
			}
		}
	}
}

func TestP148ShapesCanBeChangedInSteps(t *testing.T) {
	shapes := [][]int{nil, {0}, {1}, {7}, {60}, {2, 3}, {3, 4, 5}, {0, 60}}
	for _, a := range samples() {
		validShapes(func(between []int) {
			if product(between) != len(a.Data) {
				return
			}
			for _, shape := range shapes {
				steps, once := reshape(t, shape, reshape(t, between, a)), reshape(t, shape, a)
				if !equal(steps, once) {
					t.Fatalf("Reshape(%v, Reshape(%v, %v)) = %v", shape, between, a, steps)
				}
			}
		})
	}
}

func TestP149PartsOfPartsAreParts(t *testing.T) {
	everyAxis(func(a impl.Array, k, _ int) {
		for n := -impl.MaxItems; n <= impl.MaxItems; n++ {
			if product(withLength(a.Shape, k, max(n, -n))) > impl.MaxItems {
				continue
			}
			once := take(t, a, k, n)
			if twice := take(t, once, k, n); !equal(twice, once) {
				t.Errorf("TakeAxis(%v, %d, %d) = %v, and again %v", a, k, n, once, twice)
			}
		}
	})
}

func TestP150RotationsTurnAroundWithTheArray(t *testing.T) {
	everyAxis(func(a impl.Array, k, _ int) {
		for _, n := range turns() {
			one := impl.ReverseAxis(impl.RotateAxis(a, k, n), k)
			other := impl.RotateAxis(impl.ReverseAxis(a, k), k, -n)
			if !impl.ValidArray(one) || !equal(one, other) {
				t.Errorf("%v, axis %d, by %d: %v and %v", a, k, n, one, other)
			}
		}
	})
}

func TestP154RaveledPlacesAreNumbers(t *testing.T) {
	for _, a := range samples() {
		for _, place := range placesIn(a.Shape) {
			want, _ := impl.ItemAt(a, place)
			at := []int{impl.OffsetOf(a.Shape, place)}
			if n, ok := impl.ItemAt(impl.Ravel(a), at); !ok || n != want {
				t.Errorf("Ravel(%v) has %d, %v at %v", a, n, ok, at)
			}
		}
	}
}

func TestP155EverythingCanBeDropped(t *testing.T) {
	everyAxis(func(a impl.Array, k, length int) {
		want := impl.Array{Shape: withLength(a.Shape, k, 0)}
		for _, n := range []int{length, -length, impl.MaxItems, -impl.MaxItems} {
			if b := impl.DropAxis(a, k, n); !impl.ValidArray(b) || !equal(b, want) {
				t.Errorf("DropAxis(%v, %d, %d) = %v", a, k, n, b)
			}
		}
		if b := impl.DropAxis(a, k, 0); !equal(b, a) {
			t.Errorf("DropAxis(%v, %d, 0) = %v", a, k, b)
		}
	})
}

func TestChangedShapesAreFresh(t *testing.T) {
	for _, sample := range samples() {
		a := impl.Array{Shape: roomy(sample.Shape), Data: roomy(sample.Data)}
		shape, data := slices.Clone(a.Shape[:cap(a.Shape)]), slices.Clone(a.Data[:cap(a.Data)])
		lists := [][]int{a.Shape, a.Data}
		keep := func(b impl.Array) {
			if isZero(b) {
				t.Errorf("a call for %v failed", sample)
			}
			lists = append(lists, b.Shape, b.Data)
		}
		target := roomy([]int{2, 3})
		targetKept := slices.Clone(target[:cap(target)])
		keep(reshape(t, target, a))
		keep(reshape(t, a.Shape, a))
		keep(impl.Ravel(a))
		for k, length := range a.Shape {
			keep(impl.ReverseAxis(a, k))
			keep(impl.RotateAxis(a, k, 0))
			keep(take(t, a, k, length))
			keep(impl.DropAxis(a, k, 0))
		}
		if !slices.Equal(target[:cap(target)], targetKept) {
			t.Errorf("Reshape changed its argument to %v", target[:cap(target)])
		}
		if !slices.Equal(a.Shape[:cap(a.Shape)], shape) || !slices.Equal(a.Data[:cap(a.Data)], data) {
			t.Fatalf("%v became %v", sample, a)
		}
		wantApart(t, "shapes", append(lists, target)...)
	}
}
