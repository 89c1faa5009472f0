package tests

import (
	"math"
	"slices"
	"testing"

	"loop.example/arraylanguage/impl"
)

// square returns a matrix with as many rows as columns.
func square(side int, n ...int) impl.Array {
	return impl.Array{Shape: []int{side, side}, Data: n}
}

// everySmallSquare calls f for each matrix of a side with numbers from low to
// high.
func everySmallSquare(side, low, high int, f func(a impl.Array)) {
	data := slices.Repeat([]int{low}, side*side)
	for i := 0; i < len(data); {
		if i == 0 {
			f(square(side, slices.Clone(data)...))
		}
		if data[i] < high {
			data[i]++
			i = 0
		} else {
			data[i] = low
			i++
		}
	}
}

// squares are square matrices of every side: with zeros where an elimination
// begins, with equal rows, and with the greatest numbers.
func squares() []impl.Array {
	const most = impl.MaxEntry
	list := []impl.Array{
		square(0), square(1, 0), square(1, most), square(1, -most), square(2, 1, 2, 3, 4), square(2, 0, 1, 1, 0),
		square(2, most, most, -most, most), square(2, most, most, most, most),
		square(3, 2, 0, 1, 1, 3, 2, 0, 1, 4), square(3, 0, 1, 0, 0, 0, 1, 1, 0, 0), square(3, 1, 2, 3, 1, 2, 4, 5, 6, 7),
		square(3, 0, 2, 3, 0, 5, 6, 0, 8, 9), square(3, most, most, -most, most, -most, most, -most, most, most),
		square(4, most, most, most, most, most, -most, most, -most, most, most, -most, -most, most, -most, -most, most),
		square(4, 0, 0, 0, 1, 0, 0, 1, 0, 0, 1, 0, 0, 1, 0, 0, 0), square(4, 0, 1, 0, 0, 1, 0, 0, 0, 0, 0, 0, 1, 0, 0, 1, 0),
		square(4, 1, 1, 1, 1, 1, 1, 2, 3, 1, 2, 1, 4, 1, 3, 5, 1), square(4, 1, 2, 3, 4, 2, 4, 6, 9, 3, 6, 10, 1, 1, 1, 1, 1),
		square(4, 0, 0, 1, 2, 0, 0, 3, 4, 5, 6, 0, 0, 7, 8, 0, 0),
	}
	state := uint32(1)
	for side := range impl.MaxSide + 1 {
		for _, high := range []int{1, 3, most} {
			for range 40 {
				a := square(side, make([]int, side*side)...)
				for i := range a.Data {
					state = state*1664525 + 1013904223
					a.Data[i] = int(state>>8)%(2*high+1) - high
				}
				list = append(list, a)
			}
		}
	}
	return list
}

// everySquare calls f for each of squares, and for each small square matrix
// with small numbers.
func everySquare(f func(a impl.Array)) {
	for _, a := range squares() {
		f(a)
	}
	everySmallSquare(2, -2, 2, f)
	everySmallSquare(3, -1, 1, f)
	everySmallSquare(4, 0, 1, f)
}

// otherSquares are arrays that are not valid, or no square matrices of at most
// MaxSide rows with numbers in -MaxEntry..MaxEntry.
func otherSquares() []impl.Array {
	list := append(invalidArrays(), impl.ScalarOf(5), vector(), vector(5), vector(1, 2, 3, 4))
	for _, shape := range [][]int{{1, 0}, {0, 1}, {0, 60}, {1, 2}, {2, 1}, {2, 3}, {3, 2}, {3, 4}, {4, 3}, {4, 5}, {5, 4}, {5, 5}, {6, 6},
		{7, 7}, {1, 60}, {2, 8}, {0, 0, 0}, {1, 1, 1}, {2, 2, 2}, {3, 3, 3}, {2, 2, 1}, {1, 2, 2}, {3, 4, 5}} {
		list = append(list, impl.Array{Shape: shape, Data: make([]int, product(shape))})
	}
	for side := range impl.MaxSide + 1 {
		for i := range side * side {
			for _, n := range []int{impl.MaxEntry + 1, -impl.MaxEntry - 1, impl.MaxNum, -impl.MaxNum, impl.MaxNum + 1, math.MinInt, math.MaxInt} {
				a := square(side, make([]int, side*side)...)
				a.Data[i] = n
				list = append(list, a)
			}
		}
	}
	return list
}

// determinant returns Determinant of a square matrix.
func determinant(t *testing.T, a impl.Array) int {
	t.Helper()
	d, ok := impl.Determinant(a)
	if !ok {
		t.Fatalf("Determinant(%v) = %d, %v", a, d, ok)
	}
	return d
}

// trace returns TraceOf a square matrix.
func trace(t *testing.T, a impl.Array) int {
	t.Helper()
	n, ok := impl.TraceOf(a)
	if !ok {
		t.Fatalf("TraceOf(%v) = %d, %v", a, n, ok)
	}
	return n
}

// power returns PowerOf of a call that has to succeed.
func power(t *testing.T, a impl.Array, n int) impl.Array {
	t.Helper()
	b, ok := impl.PowerOf(a, n)
	if !ok || !impl.ValidArray(b) || !slices.Equal(b.Shape, a.Shape) {
		t.Fatalf("PowerOf(%v, %d) = %v, %v", a, n, b, ok)
	}
	return b
}

// expanded returns the determinant of rows as the document tells it.
func expanded(rows [][]int) int {
	if len(rows) == 0 {
		return 1
	}
	total, sign := 0, 1
	for k, n := range rows[0] {
		var others [][]int
		for _, row := range rows[1:] {
			others = append(others, without(row, k))
		}
		total += sign * n * expanded(others)
		sign = -sign
	}
	return total
}

// rowsOf returns the rows of a matrix.
func rowsOf(a impl.Array) [][]int {
	var rows [][]int
	for i := range a.Shape[0] {
		rows = append(rows, lineAt(a, 1, []int{i}))
	}
	return rows
}

func TestP45SumsOfProductsAreInnerProducts(t *testing.T) {
	arrays := append(matrices(), samples()...)
	arrays = append(arrays, squares()[:20]...)
	arrays = append(arrays, invalidArrays()...)
	arrays = append(arrays, cube(), mixed([]int{4}), mixed([]int{4, 2, 5}))
	for _, a := range arrays {
		for _, b := range arrays {
			one, ok := impl.SumProduct(a, b)
			other, otherOk := impl.InnerProduct(impl.OpAdd, impl.OpTimes, a, b)
			if ok != otherOk || !equal(one, other) {
				t.Errorf("SumProduct(%v, %v) = %v, %v, and InnerProduct %v, %v", a, b, one, ok, other, otherOk)
			}
		}
	}
}

func TestP45WithIdentityItIsTheMatrix(t *testing.T) {
	most := impl.Array{Shape: []int{2, 3}, Data: []int{impl.MaxNum, -impl.MaxNum, 0, -impl.MaxNum, impl.MaxNum, impl.MaxNum}}
	arrays := append(append(matrices(), squares()...), most, cube(), mixed([]int{4, 5, 3}), mixed([]int{60, 0}), mixed([]int{0, 4}))
	for _, a := range arrays {
		if last := a.Shape[len(a.Shape)-1]; last <= impl.MaxSide {
			if b := sumProduct(t, a, impl.Identity(last)); !equal(b, a) {
				t.Errorf("SumProduct(%v, Identity(%d)) = %v", a, last, b)
			}
		}
		if first := a.Shape[0]; first <= impl.MaxSide {
			if b := sumProduct(t, impl.Identity(first), a); !equal(b, a) {
				t.Errorf("SumProduct(Identity(%d), %v) = %v", first, a, b)
			}
		}
	}
}

func TestP76IdentitiesChangeNothing(t *testing.T) {
	for side := range impl.MaxSide + 1 {
		one := impl.Identity(side)
		if b := transpose(t, one); !slices.Equal(one.Shape, []int{side, side}) || !equal(b, one) {
			t.Errorf("Identity(%d) = %v, and its Transpose %v", side, one, b)
		}
		for _, a := range vectors() {
			if len(a.Data) != side {
				continue
			}
			if b := sumProduct(t, a, one); !equal(b, a) {
				t.Errorf("SumProduct(%v, Identity(%d)) = %v", a, side, b)
			}
			if b := sumProduct(t, one, a); !equal(b, a) {
				t.Errorf("SumProduct(Identity(%d), %v) = %v", side, a, b)
			}
		}
	}
}

func TestP76IdentitiesHaveTheirNumbers(t *testing.T) {
	for side, want := range []impl.Array{square(0), square(1, 1), square(2, 1, 0, 0, 1), square(3, 1, 0, 0, 0, 1, 0, 0, 0, 1),
		square(4, 1, 0, 0, 0, 0, 1, 0, 0, 0, 0, 1, 0, 0, 0, 0, 1)} {
		if a := impl.Identity(side); !equal(a, want) {
			t.Errorf("Identity(%d) = %v", side, a)
		}
	}
	for _, side := range []int{-1, -2, impl.MaxSide + 1, 7, 60, math.MaxInt, math.MinInt} {
		if a := impl.Identity(side); !isZero(a) {
			t.Errorf("Identity(%d) = %v", side, a)
		}
	}
}

func TestP77IdentitiesHaveOnes(t *testing.T) {
	for side := range impl.MaxSide + 1 {
		a := impl.Identity(side)
		if n, d := trace(t, a), determinant(t, a); n != side || d != 1 {
			t.Errorf("Identity(%d) has the trace %d and the determinant %d", side, n, d)
		}
	}
}

func TestP78DeterminantsDoNotDependOnTheDirection(t *testing.T) {
	everySquare(func(a impl.Array) {
		if one, other := determinant(t, a), determinant(t, transpose(t, a)); one != other {
			t.Errorf("Determinant(%v) = %d, and of its Transpose %d", a, one, other)
		}
	})
}

func TestP78DeterminantsAreExpanded(t *testing.T) {
	everySquare(func(a impl.Array) {
		if d, want := determinant(t, a), expanded(rowsOf(a)); d != want {
			t.Errorf("Determinant(%v) = %d, want %d", a, d, want)
		}
	})
}

func TestP78MatricesHaveTheirDeterminants(t *testing.T) {
	const most = impl.MaxEntry
	for _, x := range []struct {
		a    impl.Array
		want int
	}{
		{square(0), 1},
		{square(1, 0), 0},
		{square(1, -7), -7},
		{square(2, 1, 2, 3, 4), -2},
		{square(2, 0, 1, 1, 0), -1},
		{square(3, 2, 0, 1, 1, 3, 2, 0, 1, 4), 21},
		{square(3, 0, 1, 0, 0, 0, 1, 1, 0, 0), 1},
		{square(3, 0, 2, 3, 0, 5, 6, 0, 8, 9), 0},
		{square(3, 1, 2, 3, 1, 2, 4, 5, 6, 7), 4},
		{square(4, 0, 0, 1, 2, 0, 0, 3, 4, 5, 6, 0, 0, 7, 8, 0, 0), 4},
		// No result is limited to MaxNum.
		{square(3, most, most, -most, most, -most, most, -most, most, most), -4 * most * most * most},
		{square(4, most, most, most, most, most, -most, most, -most, most, most, -most, -most, most, -most, -most, most), 16 * most * most * most * most},
	} {
		if d := determinant(t, x.a); d != x.want {
			t.Errorf("Determinant(%v) = %d, want %d", x.a, d, x.want)
		}
	}
}

func TestP78OtherArraysHaveNoDeterminants(t *testing.T) {
	for _, a := range otherSquares() {
		if d, ok := impl.Determinant(a); ok || d != 0 {
			t.Errorf("Determinant(%v) = %d, %v", a, d, ok)
		}
	}
}

func TestP79ExchangedRowsTurnTheSignAround(t *testing.T) {
	everySquare(func(a impl.Array) {
		want := determinant(t, a)
		if side := a.Shape[0]; side == 2 || side == 3 {
			want = -want
		}
		if d := determinant(t, impl.ReverseAxis(a, 0)); d != want {
			t.Errorf("Determinant of %v with its rows in reverse order = %d, want %d", a, d, want)
		}
	})
}

func TestP80EqualRowsMakeZero(t *testing.T) {
	everySquare(func(a impl.Array) {
		side := a.Shape[0]
		if side < 2 {
			return
		}
		b := cloned(a)
		copy(b.Data[side:2*side], b.Data[:side])
		if d := determinant(t, b); d != 0 {
			t.Errorf("Determinant(%v) = %d", b, d)
		}
	})
}

func TestP81TracesAreSumsOfDiagonals(t *testing.T) {
	everySquare(func(a impl.Array) {
		n := trace(t, a)
		if want := sum(impl.Diagonal(a)); n != want {
			t.Errorf("TraceOf(%v) = %d, want %d", a, n, want)
		}
		if other := trace(t, transpose(t, a)); other != n {
			t.Errorf("TraceOf(%v) = %d, and of its Transpose %d", a, n, other)
		}
	})
	for _, x := range []struct {
		a    impl.Array
		want int
	}{
		{square(0), 0},
		{square(1, -3), -3},
		{square(2, 1, 2, 3, 4), 5},
		{square(3, 2, 0, 1, 1, 3, 2, 0, 1, 4), 9},
		{square(4, slices.Repeat([]int{-impl.MaxEntry}, 16)...), -4 * impl.MaxEntry},
	} {
		if n := trace(t, x.a); n != x.want {
			t.Errorf("TraceOf(%v) = %d", x.a, n)
		}
	}
	for _, a := range otherSquares() {
		if n, ok := impl.TraceOf(a); ok || n != 0 {
			t.Errorf("TraceOf(%v) = %d, %v", a, n, ok)
		}
	}
}

func TestP82PowersAreProducts(t *testing.T) {
	for _, a := range squares() {
		want := impl.Identity(a.Shape[0])
		for n := range impl.MaxPower + 1 {
			b := power(t, a, n)
			if !equal(b, want) {
				t.Errorf("PowerOf(%v, %d) = %v, want %v", a, n, b, want)
			}
			want = multiplied(impl.OpAdd, impl.OpTimes, b, a)
			if c := sumProduct(t, b, a); !equal(c, want) {
				t.Errorf("SumProduct(%v, %v) = %v, want %v", b, a, c, want)
			}
		}
	}
}

func TestP82MatricesHaveTheirPowers(t *testing.T) {
	const most = impl.MaxNum
	for _, x := range []struct {
		a    impl.Array
		n    int
		want impl.Array
	}{
		{square(2, 1, 2, 3, 4), 2, square(2, 7, 10, 15, 22)},
		{square(2, 1, 2, 3, 4), 3, square(2, 37, 54, 81, 118)},
		{square(2, 1, 1, 1, 0), 5, square(2, 8, 5, 5, 3)},
		{square(3, 0, 1, 0, 0, 0, 1, 0, 0, 0), 2, square(3, 0, 0, 1, 0, 0, 0, 0, 0, 0)},
		{square(1, 100), 3, square(1, most)},
		{square(1, -100), 5, square(1, -most)},
		{square(0), 5, square(0)},
		// Each step is limited.
		{square(2, 100, 100, 100, -100), 4, square(2, most, 0, 0, most)},
		{square(2, 100, 100, 0, 99), 4, square(2, most, most, 0, most)},
		{square(2, 100, 0, -100, 100), 4, square(2, most, 0, -most, most)},
	} {
		if b := power(t, x.a, x.n); !equal(b, x.want) {
			t.Errorf("PowerOf(%v, %d) = %v", x.a, x.n, b)
		}
	}
}

func TestP82OtherArgumentsHaveNoPowers(t *testing.T) {
	want := func(a impl.Array, n int) {
		t.Helper()
		if b, ok := impl.PowerOf(a, n); ok || !isZero(b) {
			t.Errorf("PowerOf(%v, %d) = %v, %v", a, n, b, ok)
		}
	}
	for _, a := range squares() {
		for _, n := range []int{-1, -2, impl.MaxPower + 1, 100, math.MaxInt, math.MinInt} {
			want(a, n)
		}
	}
	for _, a := range otherSquares() {
		for n := range impl.MaxPower + 1 {
			want(a, n)
		}
	}
}

func TestP83SmallPowersAreSimple(t *testing.T) {
	everySquare(func(a impl.Array) {
		if b := power(t, a, 0); !equal(b, impl.Identity(a.Shape[0])) {
			t.Errorf("PowerOf(%v, 0) = %v", a, b)
		}
		if b := power(t, a, 1); !equal(b, a) {
			t.Errorf("PowerOf(%v, 1) = %v", a, b)
		}
	})
}

func TestP164TracesAddUpSquares(t *testing.T) {
	check := func(a impl.Array) {
		squared := combine(t, impl.OpTimes, a, a)
		if n := trace(t, sumProduct(t, a, transpose(t, a))); n != sum(squared) {
			t.Errorf("TraceOf the product of %v and its Transpose = %d", a, n)
		}
	}
	for rows := range impl.MaxSide + 1 {
		for columns := range 16 {
			a := mixed([]int{rows, columns})
			for i := range a.Data {
				a.Data[i] = (i*i+3*i+rows)%5 - 2
			}
			check(a)
		}
	}
	check(impl.Array{Shape: []int{0, 60}})
	check(impl.Array{Shape: []int{1, 2}, Data: []int{-6, 8}})
	check(square(2, 1, -2, 3, 4))
	everySmallSquare(3, -1, 1, check)
}

func TestMatricesAreFresh(t *testing.T) {
	for side := range impl.MaxSide + 1 {
		a := impl.Array{Shape: roomy([]int{side, side}), Data: roomy(make([]int, side*side))}
		for i := range a.Data {
			a.Data[i] = (i + 1) * i % 7
		}
		arguments := [][]int{a.Shape, a.Data}
		before := wholes(arguments)
		lists := slices.Clone(arguments)
		for range 2 {
			list := []impl.Array{impl.Identity(side)}
			for n := range impl.MaxPower + 1 {
				list = append(list, power(t, a, n))
			}
			for _, b := range list {
				lists = append(lists, b.Shape, b.Data)
			}
			determinant(t, a)
			trace(t, a)
		}
		wantKept(t, arguments, before)
		wantApart(t, "matrices", lists...)
	}
}
