package tests

import (
	"math"
	"slices"
	"testing"

	"loop.example/arraylanguage/impl"
)

// windows returns WindowsOf of a call that has to succeed.
func windows(t *testing.T, a impl.Array, n int) impl.Array {
	t.Helper()
	b, ok := impl.WindowsOf(a, n)
	if !ok || !impl.ValidArray(b) || !slices.Equal(b.Shape, []int{len(a.Data) + 1 - n, n}) {
		t.Fatalf("WindowsOf(%v, %d) = %v, %v", a, n, b, ok)
	}
	return b
}

// neighbours returns NeighboursOf of a call that has to succeed.
func neighbours(t *testing.T, op int, a impl.Array) impl.Array {
	t.Helper()
	b, ok := impl.NeighboursOf(op, a)
	if !ok || !impl.ValidArray(b) || !slices.Equal(b.Shape, []int{len(a.Data) - 1}) {
		t.Fatalf("NeighboursOf(%d, %v) = %v, %v", op, a, b, ok)
	}
	return b
}

// split returns SplitAt of a call that has to succeed.
func split(t *testing.T, a, marks impl.Array) [][]int {
	t.Helper()
	parts, ok := impl.SplitAt(a, marks)
	if !ok {
		t.Fatalf("SplitAt(%v, %v) = %v, %v", a, marks, parts, ok)
	}
	return parts
}

// moveSums returns MoveSums of a call that has to succeed.
func moveSums(t *testing.T, a impl.Array, n int) impl.Array {
	t.Helper()
	b, ok := impl.MoveSums(a, n)
	if !ok || !impl.ValidArray(b) || !slices.Equal(b.Shape, []int{len(a.Data) + 1 - n}) {
		t.Fatalf("MoveSums(%v, %d) = %v, %v", a, n, b, ok)
	}
	return b
}

// wantNoWindows fails unless WindowsOf returns the zero value and false.
func wantNoWindows(t *testing.T, a impl.Array, n int) {
	t.Helper()
	if b, ok := impl.WindowsOf(a, n); ok || !isZero(b) {
		t.Errorf("WindowsOf(%v, %d) = %v, %v", a, n, b, ok)
	}
}

// wantNoNeighbours fails unless NeighboursOf returns the zero value and false.
func wantNoNeighbours(t *testing.T, op int, a impl.Array) {
	t.Helper()
	if b, ok := impl.NeighboursOf(op, a); ok || !isZero(b) {
		t.Errorf("NeighboursOf(%d, %v) = %v, %v", op, a, b, ok)
	}
}

// wantNoParts fails unless SplitAt returns nothing and false.
func wantNoParts(t *testing.T, a, marks impl.Array) {
	t.Helper()
	if parts, ok := impl.SplitAt(a, marks); ok || len(parts) > 0 {
		t.Errorf("SplitAt(%v, %v) = %v, %v", a, marks, parts, ok)
	}
}

// wantNoSums fails unless MoveSums returns the zero value and false.
func wantNoSums(t *testing.T, a impl.Array, n int) {
	t.Helper()
	if b, ok := impl.MoveSums(a, n); ok || !isZero(b) {
		t.Errorf("MoveSums(%v, %d) = %v, %v", a, n, b, ok)
	}
}

// everyWindow calls f for each of vectors, and each length of its windows, and
// tells whether all of them have room in an array.
func everyWindow(f func(a impl.Array, n int, valid bool)) {
	for _, a := range vectors() {
		for n := 1; n <= len(a.Data)+1; n++ {
			f(a, n, n <= impl.MaxItems && isShape([]int{len(a.Data) + 1 - n, n}))
		}
	}
}

// otherWindows are lengths that no window of a vector has.
func otherWindows(a impl.Array) []int {
	return []int{0, -1, -2, -len(a.Data), len(a.Data) + 2, len(a.Data) + 3, 100, math.MaxInt, math.MinInt}
}

// isSmall reports whether no number of an array is greater than 1100, and so
// no sum is limited.
func isSmall(a impl.Array) bool {
	return !slices.ContainsFunc(a.Data, func(n int) bool { return n < -1100 || n > 1100 })
}

// marksFor are marks for the parts of a vector: none, all, the first one, the
// last one and some.
func marksFor(a impl.Array) []impl.Array {
	length := len(a.Data)
	list := []impl.Array{
		vector(make([]int, length)...), vector(slices.Repeat([]int{1}, length)...), vector(slices.Repeat([]int{-impl.MaxNum}, length)...),
		a, impl.ReverseAxis(a, 0), impl.MapArray(impl.FnNot, a), mixed([]int{length}),
	}
	for i := range length {
		if i < 3 || i > length-3 {
			one := make([]int, length)
			one[i] = 9 - 2*i
			list = append(list, vector(one...))
		}
	}
	return list
}

func TestP84WindowsAreParts(t *testing.T) {
	everyWindow(func(a impl.Array, n int, valid bool) {
		if !valid {
			wantNoWindows(t, a, n)
			return
		}
		b := windows(t, a, n)
		for i := range b.Shape[0] {
			if row := cell(t, b, i); !slices.Equal(row.Data, a.Data[i:i+n]) {
				t.Errorf("row %d of WindowsOf(%v, %d) = %v", i, a, n, row)
			}
		}
		if n == 1 && !equal(impl.Ravel(b), a) {
			t.Errorf("WindowsOf(%v, 1) = %v", a, b)
		}
	})
}

func TestP84WindowsHaveTheirNumbers(t *testing.T) {
	for _, x := range []struct {
		a    impl.Array
		n    int
		want impl.Array
	}{
		{vector(1, 2, 3), 1, impl.Array{Shape: []int{3, 1}, Data: []int{1, 2, 3}}},
		{vector(1, 2, 3), 2, impl.Array{Shape: []int{2, 2}, Data: []int{1, 2, 2, 3}}},
		{vector(1, 2, 3), 3, impl.Array{Shape: []int{1, 3}, Data: []int{1, 2, 3}}},
		{vector(1, 2, 3), 4, impl.Array{Shape: []int{0, 4}}},
		{vector(7), 1, impl.Array{Shape: []int{1, 1}, Data: []int{7}}},
		{vector(7), 2, impl.Array{Shape: []int{0, 2}}},
		{vector(), 1, impl.Array{Shape: []int{0, 1}}},
		{filled([]int{60}), 60, impl.Array{Shape: []int{1, 60}, Data: filled([]int{60}).Data}},
		{filled([]int{59}), 60, impl.Array{Shape: []int{0, 60}}},
	} {
		if b := windows(t, x.a, x.n); !equal(b, x.want) {
			t.Errorf("WindowsOf(%v, %d) = %v", x.a, x.n, b)
		}
	}
	// There is no room for these.
	wantNoWindows(t, filled([]int{60}), 61)
	wantNoWindows(t, filled([]int{60}), 59)
	wantNoWindows(t, filled([]int{60}), 2)
	wantNoWindows(t, filled([]int{32}), 2)
	wantNoWindows(t, filled([]int{15}), 8)
}

func TestP84OtherArgumentsHaveNoWindows(t *testing.T) {
	for _, a := range vectors() {
		for _, n := range otherWindows(a) {
			wantNoWindows(t, a, n)
		}
	}
	for _, a := range otherVectors() {
		for _, n := range []int{0, 1, 2, 3, 60, -1} {
			wantNoWindows(t, a, n)
		}
	}
}

func TestP85TheWholeIsOneWindow(t *testing.T) {
	for _, a := range vectors() {
		length := len(a.Data)
		if length > 0 {
			if b := windows(t, a, length); !slices.Equal(b.Shape, []int{1, length}) || !equal(cell(t, b, 0), a) {
				t.Errorf("WindowsOf(%v, %d) = %v", a, length, b)
			}
		}
		if length < impl.MaxItems {
			if b := windows(t, a, length+1); !slices.Equal(b.Shape, []int{0, length + 1}) || len(b.Data) > 0 {
				t.Errorf("WindowsOf(%v, %d) = %v", a, length+1, b)
			}
		}
	}
}

func TestP86NeighboursAreSideBySide(t *testing.T) {
	for _, a := range vectors() {
		for _, op := range everyOp() {
			if len(a.Data) == 0 {
				wantNoNeighbours(t, op, a)
				continue
			}
			b := neighbours(t, op, a)
			if want := combine(t, op, impl.DropAxis(a, 0, -1), impl.DropAxis(a, 0, 1)); !equal(b, want) {
				t.Errorf("NeighboursOf(%d, %v) = %v, want %v", op, a, b, want)
			}
			for i, n := range b.Data {
				if n != impl.Operate(op, a.Data[i], a.Data[i+1]) {
					t.Errorf("NeighboursOf(%d, %v) = %v", op, a, b)
				}
			}
		}
	}
}

func TestP86NeighboursHaveTheirNumbers(t *testing.T) {
	for _, x := range []struct {
		op      int
		a, want impl.Array
	}{
		{impl.OpSubtract, vector(5, 3, 4), vector(2, -1)},
		{impl.OpLess, vector(5, 3, 4), vector(0, 1)},
		{impl.OpRest, vector(5, 13, 4), vector(3, 4)},
		{impl.OpAdd, vector(impl.MaxNum, impl.MaxNum, -1), vector(impl.MaxNum, impl.MaxNum-1)},
		{impl.OpTimes, vector(7), vector()},
	} {
		if b := neighbours(t, x.op, x.a); !equal(b, x.want) {
			t.Errorf("NeighboursOf(%d, %v) = %v", x.op, x.a, b)
		}
	}
}

func TestP86OtherArgumentsHaveNoNeighbours(t *testing.T) {
	for _, op := range otherFunctions() {
		for _, a := range vectors() {
			wantNoNeighbours(t, op, a)
		}
	}
	for _, a := range otherVectors() {
		for _, op := range everyOp() {
			wantNoNeighbours(t, op, a)
		}
	}
}

func TestP87DifferencesUndoSums(t *testing.T) {
	for _, a := range vectors() {
		if len(a.Data) == 0 || !isSmall(a) {
			continue
		}
		b := neighbours(t, impl.OpSubtract, scan(t, impl.OpAdd, a, 0))
		if want := impl.DropAxis(impl.MapArray(impl.FnNegate, a), 0, 1); !equal(b, want) {
			t.Errorf("the sums of %v have the differences %v", a, b)
		}
	}
}

func TestP88PartsMakeTheWhole(t *testing.T) {
	for _, a := range vectors() {
		for _, marks := range marksFor(a) {
			parts := split(t, a, marks)
			first := slices.IndexFunc(marks.Data, func(n int) bool { return n != 0 })
			if first < 0 {
				first = len(a.Data)
			}
			if whole := slices.Concat(parts...); !slices.Equal(whole, a.Data[first:]) {
				t.Errorf("SplitAt(%v, %v) = %v", a, marks, parts)
			}
		}
	}
}

func TestP88PartsHaveTheirNumbers(t *testing.T) {
	for _, x := range []struct {
		a, marks impl.Array
		want     [][]int
	}{
		{vector(1, 2, 3, 4), vector(0, 1, 0, 1), [][]int{{2, 3}, {4}}},
		{vector(1, 2, 3, 4), vector(1, 0, 0, 0), [][]int{{1, 2, 3, 4}}},
		{vector(1, 2, 3, 4), vector(0, 0, 0, -5), [][]int{{4}}},
		{vector(1, 0, 3), vector(2, 2, 0), [][]int{{1}, {0, 3}}},
		{vector(1, 2, 3), vector(0, 0, 0), nil},
		{vector(), vector(), nil},
		{vector(6), vector(-impl.MaxNum), [][]int{{6}}},
		{vector(6), vector(0), nil},
	} {
		if parts := split(t, x.a, x.marks); !slices.EqualFunc(parts, x.want, slices.Equal[[]int]) {
			t.Errorf("SplitAt(%v, %v) = %v", x.a, x.marks, parts)
		}
	}
}

func TestP88OtherArraysHaveNoParts(t *testing.T) {
	for _, a := range vectors() {
		for _, marks := range []impl.Array{vector(), vector(1), vector(1, 1), vector(0, 1, 0), impl.CountTo(len(a.Data) + 1), impl.CountTo(len(a.Data) - 1)} {
			if len(a.Data) != len(marks.Data) {
				wantNoParts(t, a, marks)
				wantNoParts(t, marks, a)
			}
		}
	}
	for _, bad := range otherVectors() {
		for _, a := range []impl.Array{vector(), vector(1), vector(1, 0), vector(0, 1, 2), vector(make([]int, len(bad.Data)%61)...), bad} {
			wantNoParts(t, a, bad)
			wantNoParts(t, bad, a)
		}
	}
}

func TestP89EveryMarkBeginsAPart(t *testing.T) {
	for _, a := range vectors() {
		for _, marks := range marksFor(a) {
			parts := split(t, a, marks)
			starts := where(t, marks).Data
			if len(parts) != len(starts) {
				t.Fatalf("SplitAt(%v, %v) = %v", a, marks, parts)
			}
			for i, part := range parts {
				end := len(a.Data)
				if i+1 < len(starts) {
					end = starts[i+1]
				}
				if !slices.Equal(part, a.Data[starts[i]:end]) {
					t.Errorf("SplitAt(%v, %v) = %v", a, marks, parts)
				}
			}
		}
		everywhere := split(t, a, vector(slices.Repeat([]int{1}, len(a.Data))...))
		alone := slices.Collect(slices.Chunk(a.Data, 1))
		if !slices.EqualFunc(everywhere, alone, slices.Equal[[]int]) {
			t.Errorf("SplitAt(%v) with marks everywhere = %v", a, everywhere)
		}
		if parts := split(t, a, vector(make([]int, len(a.Data))...)); len(parts) > 0 {
			t.Errorf("SplitAt(%v) without marks = %v", a, parts)
		}
	}
}

func TestP90MovingSumsAreSumsOfWindows(t *testing.T) {
	everyWindow(func(a impl.Array, n int, valid bool) {
		b := moveSums(t, a, n)
		if valid && isSmall(a) {
			if want := reduce(t, impl.OpAdd, windows(t, a, n), 1); !equal(b, want) {
				t.Errorf("MoveSums(%v, %d) = %v, want %v", a, n, b, want)
			}
		}
		for i, total := range b.Data {
			if want := limit(sum(impl.Array{Data: a.Data[i : i+n]})); total != want {
				t.Errorf("MoveSums(%v, %d) has %d at %d, want %d", a, n, total, i, want)
			}
		}
	})
}

func TestP90MovingSumsAreLimitedAtTheEnd(t *testing.T) {
	const most = impl.MaxNum
	for _, x := range []struct {
		a    impl.Array
		n    int
		want impl.Array
	}{
		{vector(1, 2, 3), 2, vector(3, 5)},
		{vector(1, 2, 3), 4, vector()},
		{vector(), 1, vector()},
		{vector(most, most, -most), 3, vector(most)},
		{vector(-most, most, most), 3, vector(most)},
		{vector(-most, -most, most), 3, vector(-most)},
		{vector(most, -most, -most), 3, vector(-most)},
		{vector(most, most, -most, -most, 5), 2, vector(most, 0, -most, 5-most)},
		{vector(most, most, most, -most, -1), 4, vector(most, most-1)},
		{vector(most, 1, 0, -1), 2, vector(most, 1, -1)},
		// The windows have no room in an array, but their sums have.
		{filled([]int{60}), 61, vector()},
		{vector(slices.Repeat([]int{1}, 60)...), 31, vector(slices.Repeat([]int{31}, 30)...)},
		{vector(slices.Repeat([]int{-most}, 60)...), 59, vector(-most, -most)},
	} {
		if b := moveSums(t, x.a, x.n); !equal(b, x.want) {
			t.Errorf("MoveSums(%v, %d) = %v, want %v", x.a, x.n, b, x.want)
		}
	}
}

func TestP90OtherArgumentsHaveNoSums(t *testing.T) {
	for _, a := range vectors() {
		for _, n := range otherWindows(a) {
			wantNoSums(t, a, n)
		}
	}
	for _, a := range otherVectors() {
		for _, n := range []int{0, 1, 2, 3, 60, -1} {
			wantNoSums(t, a, n)
		}
	}
}

func TestP91SumsOfOneNumberAreTheNumber(t *testing.T) {
	for _, a := range vectors() {
		if b := moveSums(t, a, 1); !equal(b, a) {
			t.Errorf("MoveSums(%v, 1) = %v", a, b)
		}
		length := len(a.Data)
		if length == 0 {
			continue
		}
		if b := moveSums(t, a, length); !equal(b, vector(limit(sum(a)))) {
			t.Errorf("MoveSums(%v, %d) = %v", a, length, b)
		}
	}
}

func TestP165WindowsOfTwoAreNeighbours(t *testing.T) {
	for _, a := range vectors() {
		if len(a.Data) == 0 || !isShape([]int{len(a.Data) - 1, 2}) {
			continue
		}
		for _, op := range everyOp() {
			one, other := reduce(t, op, windows(t, a, 2), 1), neighbours(t, op, a)
			if !equal(one, other) {
				t.Errorf("the windows of %v reduced with %d: %v, and its neighbours: %v", a, op, one, other)
			}
		}
	}
}

func TestWindowsAreFresh(t *testing.T) {
	for _, sample := range []impl.Array{vector(), vector(3), vector(3, 4), vector(1, 0, 2, 5)} {
		a := impl.Array{Shape: roomy(sample.Shape), Data: roomy(sample.Data)}
		marks := impl.Array{Shape: roomy(sample.Shape), Data: roomy(impl.ReverseAxis(sample, 0).Data)}
		arguments := [][]int{a.Shape, a.Data, marks.Shape, marks.Data}
		before := wholes(arguments)
		lists := slices.Clone(arguments)
		for range 2 {
			var list []impl.Array
			for n := range len(a.Data) + 1 {
				list = append(list, windows(t, a, n+1), moveSums(t, a, n+1))
			}
			if len(a.Data) > 0 {
				list = append(list, neighbours(t, impl.OpMin, a))
			}
			for _, b := range list {
				lists = append(lists, b.Shape, b.Data)
			}
			for _, m := range []impl.Array{marks, a, impl.MapArray(impl.FnNot, a)} {
				lists = append(lists, split(t, a, m)...)
			}
		}
		wantKept(t, arguments, before)
		wantApart(t, "windows", lists...)
	}
}
