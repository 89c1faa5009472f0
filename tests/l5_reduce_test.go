package tests

import (
	"slices"
	"testing"

	"loop.example/arraylanguage/impl"
)

// without returns a shape without an axis.
func without(shape []int, k int) []int {
	return slices.Delete(slices.Clone(shape), k, k+1)
}

// lineAt returns the numbers along axis k at a place of the other axes.
func lineAt(a impl.Array, k int, others []int) []int {
	var line []int
	for i := range a.Shape[k] {
		n, _ := impl.ItemAt(a, slices.Insert(slices.Clone(others), k, i))
		line = append(line, n)
	}
	return line
}

// folded returns the reduction of numbers from the right.
func folded(op int, line []int) int {
	switch len(line) {
	case 0:
		return impl.NeutralOf(op)
	case 1:
		return line[0]
	default:
		return impl.Operate(op, line[0], folded(op, line[1:]))
	}
}

// reduced returns what ReduceAxis of a valid result has to be.
func reduced(op int, a impl.Array, k int) impl.Array {
	b := impl.Array{Shape: without(a.Shape, k)}
	for _, others := range placesIn(b.Shape) {
		b.Data = append(b.Data, folded(op, lineAt(a, k, others)))
	}
	return b
}

// scanned returns what ScanAxis has to be.
func scanned(op int, a impl.Array, k int) impl.Array {
	b := impl.Array{Shape: slices.Clone(a.Shape)}
	for _, place := range placesIn(a.Shape) {
		line := lineAt(a, k, without(place, k))
		b.Data = append(b.Data, folded(op, line[:place[k]+1]))
	}
	return b
}

// reduce returns ReduceAxis of a call that has to succeed.
func reduce(t *testing.T, op int, a impl.Array, k int) impl.Array {
	t.Helper()
	b, ok := impl.ReduceAxis(op, a, k)
	if !ok || !impl.ValidArray(b) {
		t.Fatalf("ReduceAxis(%d, %v, %d) = %v, %v", op, a, k, b, ok)
	}
	return b
}

// scan returns ScanAxis of a call that has to succeed.
func scan(t *testing.T, op int, a impl.Array, k int) impl.Array {
	t.Helper()
	b := impl.ScanAxis(op, a, k)
	if !impl.ValidArray(b) || !slices.Equal(b.Shape, a.Shape) {
		t.Fatalf("ScanAxis(%d, %v, %d) = %v", op, a, k, b)
	}
	return b
}

// everyMixedAxis calls f for each axis of each array of mixedSamples, and of
// one with small numbers.
func everyMixedAxis(f func(a impl.Array, k, length int)) {
	for _, a := range append(mixedSamples(), cube()) {
		for k, length := range a.Shape {
			f(a, k, length)
		}
	}
}

// cube returns an array with three axes and the numbers from 1 to 24.
func cube() impl.Array {
	a := impl.Array{Shape: []int{2, 3, 4}}
	for n := range 24 {
		a.Data = append(a.Data, n+1)
	}
	return a
}

func TestP33ReductionsTakeAnAxisAway(t *testing.T) {
	everyMixedAxis(func(a impl.Array, k, length int) {
		if product(without(a.Shape, k)) > impl.MaxItems {
			return
		}
		for _, op := range everyOp() {
			b := reduce(t, op, a, k)
			if !slices.Equal(b.Shape, without(a.Shape, k)) || !equal(b, reduced(op, a, k)) {
				t.Errorf("ReduceAxis(%d, %v, %d) = %v", op, a, k, b)
			}
			if length == 1 && !slices.Equal(b.Data, a.Data) {
				t.Errorf("ReduceAxis(%d, %v, %d) = %v", op, a, k, b)
			}
		}
	})
}

func TestP33AnAxisOfOnePlaceKeepsItsNumbers(t *testing.T) {
	for _, shape := range [][]int{{1}, {1, 60}, {60, 1}, {1, 3, 4}, {3, 1, 4}, {3, 4, 1}, {1, 1, 1}, {1, 0}, {0, 1}} {
		a := mixed(shape)
		for _, op := range everyOp() {
			for k, length := range shape {
				want := impl.Array{Shape: without(shape, k), Data: a.Data}
				if b := reduce(t, op, a, k); length == 1 && !equal(b, want) {
					t.Errorf("ReduceAxis(%d, %v, %d) = %v", op, a, k, b)
				}
			}
		}
	}
}

func TestP33ReductionsGoFromRightToLeft(t *testing.T) {
	const most = impl.MaxNum
	for _, x := range []struct {
		op   int
		list []int
		want int
	}{
		{impl.OpAdd, []int{1, 2, 3}, 6},
		{impl.OpAdd, []int{most, most, -most}, most},
		{impl.OpAdd, []int{-most, most, most}, 0},
		{impl.OpSubtract, []int{1, 2, 3}, 2},
		{impl.OpSubtract, []int{1, 2, 3, 4}, -2},
		{impl.OpSubtract, []int{5}, 5},
		{impl.OpSubtract, []int{most, most, -most}, 0},
		{impl.OpTimes, []int{0, most, most}, 0},
		{impl.OpTimes, []int{-1, 1000, 2000}, -most},
		{impl.OpMin, []int{2, -7, 5}, -7},
		{impl.OpMax, []int{2, -7, 5}, 5},
		{impl.OpEqual, []int{2, 5, 5}, 0},
		{impl.OpEqual, []int{1, 5, 5}, 1},
		{impl.OpEqual, []int{5, 5, 1}, 0},
		{impl.OpLess, []int{0, 3, 5}, 1},
		{impl.OpLess, []int{3, 5, 0}, 0},
		{impl.OpLess, []int{-1, 5, 3}, 1},
		{impl.OpRest, []int{5, 7, 20}, 1},
		{impl.OpRest, []int{20, 7, 5}, 5},
		{impl.OpRest, []int{-1, 3, -1}, 2},
	} {
		want := impl.Array{Data: []int{x.want}}
		if b := reduce(t, x.op, vector(x.list...), 0); !equal(b, want) {
			t.Errorf("ReduceAxis(%d, %v, 0) = %v, want %d", x.op, x.list, b, x.want)
		}
	}
}

func TestP33ReductionsOfThreeAxes(t *testing.T) {
	for _, x := range []struct {
		op, k int
		want  impl.Array
	}{
		{impl.OpAdd, 0, impl.Array{Shape: []int{3, 4}, Data: []int{14, 16, 18, 20, 22, 24, 26, 28, 30, 32, 34, 36}}},
		{impl.OpAdd, 1, impl.Array{Shape: []int{2, 4}, Data: []int{15, 18, 21, 24, 51, 54, 57, 60}}},
		{impl.OpAdd, 2, impl.Array{Shape: []int{2, 3}, Data: []int{10, 26, 42, 58, 74, 90}}},
		{impl.OpSubtract, 0, impl.Array{Shape: []int{3, 4}, Data: slices.Repeat([]int{-12}, 12)}},
		{impl.OpSubtract, 1, impl.Array{Shape: []int{2, 4}, Data: []int{5, 6, 7, 8, 17, 18, 19, 20}}},
		{impl.OpSubtract, 2, impl.Array{Shape: []int{2, 3}, Data: slices.Repeat([]int{-2}, 6)}},
	} {
		if b := reduce(t, x.op, cube(), x.k); !equal(b, x.want) {
			t.Errorf("ReduceAxis(%d, cube, %d) = %v", x.op, x.k, b)
		}
	}
}

func TestP33NoNumbersBecomeNeutralOnes(t *testing.T) {
	for _, x := range []struct {
		shape []int
		k     int
		left  []int
	}{
		{[]int{0}, 0, nil},
		{[]int{2, 0}, 1, []int{2}},
		{[]int{0, 3}, 0, []int{3}},
		{[]int{0, 60}, 0, []int{60}},
		{[]int{2, 0, 3}, 1, []int{2, 3}},
		{[]int{0, 2, 3}, 0, []int{2, 3}},
		{[]int{2, 3, 0}, 2, []int{2, 3}},
		{[]int{6, 10, 0}, 2, []int{6, 10}},
		{[]int{2, 0}, 0, []int{0}},
		{[]int{60, 60, 0}, 0, []int{60, 0}},
		{[]int{0, 0}, 1, []int{0}},
		{[]int{0, 5, 0}, 0, []int{5, 0}},
		{[]int{0, 0, 60}, 1, []int{0, 60}},
		{[]int{0, 0, 0}, 2, []int{0, 0}},
	} {
		for i, neutral := range []int{0, 0, 1, impl.MaxNum, -impl.MaxNum, 1, 0, 0} {
			want := impl.Array{Shape: x.left, Data: slices.Repeat([]int{neutral}, product(x.left))}
			if b := reduce(t, everyOp()[i], impl.Array{Shape: x.shape}, x.k); !equal(b, want) {
				t.Errorf("ReduceAxis(%d, nothing in %v, %d) = %v", everyOp()[i], x.shape, x.k, b)
			}
		}
	}
}

// Without an axis that has no places there may be too many places.
func TestP33ReductionsThatAreNotValid(t *testing.T) {
	for _, x := range []struct {
		shape []int
		k     int
	}{
		{[]int{60, 60, 0}, 2}, {[]int{60, 0, 60}, 1}, {[]int{0, 60, 60}, 0},
		{[]int{31, 2, 0}, 2}, {[]int{8, 0, 8}, 1}, {[]int{0, 2, 31}, 0},
	} {
		for _, op := range everyOp() {
			if b, ok := impl.ReduceAxis(op, impl.Array{Shape: x.shape}, x.k); ok || !isZero(b) {
				t.Errorf("ReduceAxis(%d, nothing in %v, %d) = %v, %v", op, x.shape, x.k, b, ok)
			}
		}
	}
}

// wantNoReduction fails unless ReduceAxis and ScanAxis return zero values.
func wantNoReduction(t *testing.T, op int, a impl.Array, k int) {
	t.Helper()
	if b, ok := impl.ReduceAxis(op, a, k); ok || !isZero(b) {
		t.Errorf("ReduceAxis(%d, %v, %d) = %v, %v", op, a, k, b, ok)
	}
	if b := impl.ScanAxis(op, a, k); !isZero(b) {
		t.Errorf("ScanAxis(%d, %v, %d) = %v", op, a, k, b)
	}
}

func TestP33OtherArgumentsAreNotReduced(t *testing.T) {
	for _, a := range samples() {
		for _, op := range everyOp() {
			for _, k := range otherAxes(a) {
				wantNoReduction(t, op, a, k)
			}
		}
		for _, op := range otherFunctions() {
			for k := range a.Shape {
				wantNoReduction(t, op, a, k)
			}
		}
	}
	for _, a := range invalidArrays() {
		for _, op := range everyOp() {
			for k := range impl.MaxRank + 1 {
				wantNoReduction(t, op, a, k)
			}
		}
	}
}

func TestP35TheOrderDoesNotMatterForTheSmallerNumber(t *testing.T) {
	everyMixedAxis(func(a impl.Array, k, length int) {
		if length == 0 {
			return // the result may be too great
		}
		for _, op := range []int{impl.OpMin, impl.OpMax} {
			b := reduce(t, op, a, k)
			if other := reduce(t, op, impl.ReverseAxis(a, k), k); !equal(b, other) {
				t.Errorf("ReduceAxis(%d, %v, %d) = %v, and reversed %v", op, a, k, b, other)
			}
			for i, others := range placesIn(b.Shape) {
				line := lineAt(a, k, others)
				want := slices.Min(line)
				if op == impl.OpMax {
					want = slices.Max(line)
				}
				if b.Data[i] != want {
					t.Errorf("ReduceAxis(%d, %v, %d) = %v", op, a, k, b)
				}
			}
		}
	})
	for _, op := range []int{impl.OpMin, impl.OpMax} {
		a := impl.Array{Shape: []int{2, 0}}
		if b, other := reduce(t, op, a, 1), reduce(t, op, impl.ReverseAxis(a, 1), 1); !equal(b, other) {
			t.Errorf("ReduceAxis(%d, nothing, 1) = %v, and reversed %v", op, b, other)
		}
	}
}

func TestP36ScansEndWithTheReduction(t *testing.T) {
	everyMixedAxis(func(a impl.Array, k, length int) {
		for _, op := range everyOp() {
			b := scan(t, op, a, k)
			if !equal(b, scanned(op, a, k)) {
				t.Errorf("ScanAxis(%d, %v, %d) = %v", op, a, k, b)
			}
			if length == 0 {
				continue
			}
			if last := take(t, b, k, -1); !slices.Equal(last.Data, reduce(t, op, a, k).Data) {
				t.Errorf("ScanAxis(%d, %v, %d) ends with %v", op, a, k, last)
			}
			if first := take(t, b, k, 1); !equal(first, take(t, a, k, 1)) {
				t.Errorf("ScanAxis(%d, %v, %d) begins with %v", op, a, k, first)
			}
		}
	})
}

func TestP36ScansHaveEachReduction(t *testing.T) {
	const most = impl.MaxNum
	m := impl.Array{Shape: []int{2, 3}, Data: []int{1, 2, 3, 4, 5, 6}}
	for _, x := range []struct {
		op   int
		a    impl.Array
		k    int
		want []int
	}{
		{impl.OpSubtract, vector(1, 2, 3, 4), 0, []int{1, -1, 2, -2}},
		{impl.OpAdd, vector(most, most, -most), 0, []int{most, most, most}},
		{impl.OpAdd, vector(-most, most, most), 0, []int{-most, 0, 0}},
		{impl.OpLess, vector(2, 5, 3), 0, []int{2, 1, 0}},
		{impl.OpEqual, vector(2, 2, 1), 0, []int{2, 1, 0}},
		{impl.OpRest, vector(5, 7, 20), 0, []int{5, 2, 1}},
		{impl.OpMin, vector(3, 5, 1, 2), 0, []int{3, 3, 1, 1}},
		{impl.OpMax, vector(3, 5, 1, 7), 0, []int{3, 5, 5, 7}},
		{impl.OpAdd, m, 0, []int{1, 2, 3, 5, 7, 9}},
		{impl.OpAdd, m, 1, []int{1, 3, 6, 4, 9, 15}},
		{impl.OpSubtract, m, 1, []int{1, -1, 2, 4, -1, 5}},
		{impl.OpSubtract, cube(), 1, []int{1, 2, 3, 4, -4, -4, -4, -4, 5, 6, 7, 8,
			13, 14, 15, 16, -4, -4, -4, -4, 17, 18, 19, 20}},
	} {
		if b := scan(t, x.op, x.a, x.k); !slices.Equal(b.Data, x.want) {
			t.Errorf("ScanAxis(%d, %v, %d) = %v", x.op, x.a, x.k, b)
		}
	}
}

// The array stays valid even where its reduction is not.
func TestP36NothingIsScanned(t *testing.T) {
	for _, shape := range [][]int{{0}, {2, 0}, {0, 3}, {60, 60, 0}, {60, 0, 60}, {0, 60, 60}, {0, 0, 0}} {
		a := impl.Array{Shape: shape}
		for _, op := range everyOp() {
			for k := range shape {
				if b := scan(t, op, a, k); !equal(b, a) {
					t.Errorf("ScanAxis(%d, nothing in %v, %d) = %v", op, shape, k, b)
				}
			}
		}
	}
}

func TestP37ScansOfPartsArePartsOfScans(t *testing.T) {
	everyMixedAxis(func(a impl.Array, k, length int) {
		for _, op := range everyOp() {
			whole := scan(t, op, a, k)
			for n := range min(length, 8) + 1 {
				part := scan(t, op, take(t, a, k, n), k)
				if !equal(part, take(t, whole, k, n)) {
					t.Errorf("ScanAxis(%d) of %d places of %v, %d = %v", op, n, a, k, part)
				}
			}
		}
	})
}

func TestP38AllNumbersAreReduced(t *testing.T) {
	for _, a := range append(mixedSamples(), cube()) {
		for _, op := range everyOp() {
			n := impl.ReduceAll(op, a)
			if want := folded(op, a.Data); n != want {
				t.Errorf("ReduceAll(%d, %v) = %d, want %d", op, a, n, want)
			}
			if b := reduce(t, op, impl.Ravel(a), 0); !equal(b, impl.ScalarOf(n)) {
				t.Errorf("ReduceAll(%d, %v) = %d, and ReduceAxis %v", op, a, n, b)
			}
		}
	}
	if n := impl.ReduceAll(impl.OpSubtract, cube()); n != -12 {
		t.Errorf("ReduceAll(OpSubtract, cube) = %d", n)
	}
}

func TestP38ANumberWithoutAxesIsItsReduction(t *testing.T) {
	for _, n := range numbers() {
		for _, op := range everyOp() {
			if got := impl.ReduceAll(op, impl.ScalarOf(n)); got != n {
				t.Errorf("ReduceAll(%d, %d) = %d", op, n, got)
			}
		}
	}
}

func TestP38OtherArgumentsAreZero(t *testing.T) {
	for _, op := range otherFunctions() {
		for _, a := range samples() {
			if n := impl.ReduceAll(op, a); n != 0 {
				t.Errorf("ReduceAll(%d, %v) = %d", op, a, n)
			}
		}
	}
	for _, op := range everyOp() {
		for _, a := range invalidArrays() {
			if n := impl.ReduceAll(op, a); n != 0 {
				t.Errorf("ReduceAll(%d, %v) = %d", op, a, n)
			}
		}
	}
}

func TestP39LeastAndGreatestNumbersAreThere(t *testing.T) {
	for _, a := range append(mixedSamples(), cube()) {
		if len(a.Data) == 0 {
			continue
		}
		least, greatest := impl.ReduceAll(impl.OpMin, a), impl.ReduceAll(impl.OpMax, a)
		if !slices.Contains(a.Data, least) || !slices.Contains(a.Data, greatest) {
			t.Errorf("%v has not %d and %d", a, least, greatest)
		}
		for _, n := range a.Data {
			if n < least || n > greatest {
				t.Errorf("%d of %v is not in %d..%d", n, a, least, greatest)
			}
		}
	}
}

func TestP144ScansOfOnesCount(t *testing.T) {
	for length := range impl.MaxItems + 1 {
		ones := vector(slices.Repeat([]int{1}, length)...)
		b := scan(t, impl.OpAdd, ones, 0)
		for i, n := range b.Data {
			if n != i+1 {
				t.Errorf("the scan of %d ones has %d at %d", length, n, i)
			}
		}
	}
}

func TestP171ReductionsOfNothingAreNeutral(t *testing.T) {
	want := []int{0, 0, 1, impl.MaxNum, -impl.MaxNum, 1, 0, 0}
	for _, shape := range [][]int{{0}, {0, 0}, {0, 60}, {60, 0}, {2, 0, 3}, {60, 60, 0}, {60, 0, 60}, {0, 60, 60}} {
		for i, op := range everyOp() {
			n := impl.ReduceAll(op, impl.Array{Shape: shape})
			if n != impl.NeutralOf(op) || n != want[i] {
				t.Errorf("ReduceAll(%d, nothing in %v) = %d", op, shape, n)
			}
		}
	}
}

func TestReductionsAreFresh(t *testing.T) {
	for _, sample := range append(samples(), impl.Array{Shape: []int{1, 3}, Data: []int{1, 2, 3}}) {
		a := impl.Array{Shape: roomy(sample.Shape), Data: roomy(sample.Data)}
		lists := [][]int{a.Shape, a.Data}
		before := wholes(lists)
		for k := range a.Shape {
			for range 2 {
				b := scan(t, impl.OpMax, a, k)
				lists = append(lists, b.Shape, b.Data)
				if product(without(a.Shape, k)) <= impl.MaxItems {
					c := reduce(t, impl.OpMax, a, k)
					lists = append(lists, c.Shape, c.Data)
				}
			}
		}
		impl.ReduceAll(impl.OpMax, a)
		wantKept(t, lists, before)
		wantApart(t, "reductions", lists...)
	}
}
