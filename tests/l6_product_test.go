package tests

import (
	"slices"
	"testing"

	"loop.example/arraylanguage/impl"
)

// outer returns OuterProduct of a call that has to succeed.
func outer(t *testing.T, op int, a, b impl.Array) impl.Array {
	t.Helper()
	c, ok := impl.OuterProduct(op, a, b)
	if !ok || !impl.ValidArray(c) {
		t.Fatalf("OuterProduct(%d, %v, %v) = %v, %v", op, a, b, c, ok)
	}
	return c
}

// inner returns InnerProduct of a call that has to succeed.
func inner(t *testing.T, f, g int, a, b impl.Array) impl.Array {
	t.Helper()
	c, ok := impl.InnerProduct(f, g, a, b)
	if !ok || !impl.ValidArray(c) {
		t.Fatalf("InnerProduct(%d, %d, %v, %v) = %v, %v", f, g, a, b, c, ok)
	}
	return c
}

// sumProduct returns SumProduct of a call that has to succeed.
func sumProduct(t *testing.T, a, b impl.Array) impl.Array {
	t.Helper()
	c, ok := impl.SumProduct(a, b)
	if !ok || !impl.ValidArray(c) {
		t.Fatalf("SumProduct(%v, %v) = %v, %v", a, b, c, ok)
	}
	return c
}

// wantNoOuter fails unless OuterProduct returns the zero value and false.
func wantNoOuter(t *testing.T, op int, a, b impl.Array) {
	t.Helper()
	if c, ok := impl.OuterProduct(op, a, b); ok || !isZero(c) {
		t.Errorf("OuterProduct(%d, %v, %v) = %v, %v", op, a, b, c, ok)
	}
}

// wantNoInner fails unless InnerProduct, and SumProduct for its functions,
// return the zero value and false.
func wantNoInner(t *testing.T, f, g int, a, b impl.Array) {
	t.Helper()
	if c, ok := impl.InnerProduct(f, g, a, b); ok || !isZero(c) {
		t.Errorf("InnerProduct(%d, %d, %v, %v) = %v, %v", f, g, a, b, c, ok)
	}
	if f != impl.OpAdd || g != impl.OpTimes {
		return
	}
	if c, ok := impl.SumProduct(a, b); ok || !isZero(c) {
		t.Errorf("SumProduct(%v, %v) = %v, %v", a, b, c, ok)
	}
}

// isShape reports whether lengths of axes, none over the limit, are a valid shape.
func isShape(shape []int) bool {
	return len(shape) <= impl.MaxRank && product(shape) <= impl.MaxItems
}

// innerShape returns the shape of InnerProduct, valid or not, and true; nil and
// false if an array has no axes or the lengths differ.
func innerShape(a, b impl.Array) ([]int, bool) {
	last := len(a.Shape) - 1
	if last < 0 || len(b.Shape) == 0 || a.Shape[last] != b.Shape[0] {
		return nil, false
	}
	return slices.Concat(a.Shape[:last], b.Shape[1:]), true
}

// multiplied returns what InnerProduct of a valid result has to be.
func multiplied(f, g int, a, b impl.Array) impl.Array {
	shape, _ := innerShape(a, b)
	c := impl.Array{Shape: shape}
	last := len(a.Shape) - 1
	for _, place := range placesIn(shape) {
		row, column := lineAt(a, last, place[:last]), lineAt(b, 0, place[last:])
		var list []int
		for i := range row {
			list = append(list, impl.Operate(g, row[i], column[i]))
		}
		c.Data = append(c.Data, folded(f, list))
	}
	return c
}

// matrices are valid arrays with two axes and small numbers.
func matrices() []impl.Array {
	list := []impl.Array{
		{Shape: []int{2, 3}, Data: []int{0, 1, 2, 3, 0, 1}},
		{Shape: []int{2, 2}, Data: []int{1, -2, 3, 4}},
	}
	for _, shape := range [][]int{{1, 1}, {1, 5}, {5, 1}, {3, 2}, {3, 3}, {3, 4}, {4, 3}, {7, 8}, {1, 60}, {60, 1}, {0, 3}, {3, 0}, {0, 0}} {
		list = append(list, mixed(shape))
	}
	return list
}

func TestP40AllPairsAreThere(t *testing.T) {
	arrays := []impl.Array{impl.ScalarOf(-7), vector(), vector(3), vector(1, -2), vector(0, 4, 5)}
	for _, shape := range [][]int{{2, 3}, {1, 1}, {2, 0}, {60, 0}, {1, 2, 3}, {3, 4, 5}, {0, 60, 60}} {
		arrays = append(arrays, mixed(shape))
	}
	for _, a := range arrays {
		for _, b := range arrays {
			shape := slices.Concat(a.Shape, b.Shape)
			for _, op := range everyOp() {
				if !isShape(shape) {
					wantNoOuter(t, op, a, b)
					continue
				}
				want := impl.Array{Shape: shape}
				for _, n := range a.Data {
					for _, m := range b.Data {
						want.Data = append(want.Data, impl.Operate(op, n, m))
					}
				}
				if c := outer(t, op, a, b); !equal(c, want) {
					t.Errorf("OuterProduct(%d, %v, %v) = %v", op, a, b, c)
				}
			}
		}
	}
}

func TestP40PairsHaveTheirPlaces(t *testing.T) {
	m := impl.Array{Shape: []int{2, 3}, Data: []int{0, 1, 2, 3, 0, 1}}
	for _, x := range []struct {
		op   int
		a, b impl.Array
		want impl.Array
	}{
		{impl.OpSubtract, vector(1, 2), vector(3, 4, 5), impl.Array{Shape: []int{2, 3}, Data: []int{-2, -3, -4, -1, -2, -3}}},
		{impl.OpRest, vector(2, 3, 0), vector(7, -1), impl.Array{Shape: []int{3, 2}, Data: []int{1, 1, 1, 2, 7, -1}}},
		{impl.OpSubtract, vector(10, 20), m, impl.Array{Shape: []int{2, 2, 3}, Data: []int{10, 9, 8, 7, 10, 9, 20, 19, 18, 17, 20, 19}}},
		{impl.OpSubtract, m, vector(10, 20), impl.Array{Shape: []int{2, 3, 2}, Data: []int{-10, -20, -9, -19, -8, -18, -7, -17, -10, -20, -9, -19}}},
		{impl.OpTimes, impl.ScalarOf(3), impl.ScalarOf(4), impl.ScalarOf(12)},
		{impl.OpTimes, vector(impl.MaxNum), vector(2), impl.Array{Shape: []int{1, 1}, Data: []int{impl.MaxNum}}},
	} {
		if c := outer(t, x.op, x.a, x.b); !equal(c, x.want) {
			t.Errorf("OuterProduct(%d, %v, %v) = %v", x.op, x.a, x.b, c)
		}
	}
	a, b := vector(1, 2, 3), impl.Array{Shape: []int{4, 5}, Data: impl.CountTo(20).Data}
	c := outer(t, impl.OpLess, a, b)
	for _, place := range placesIn(c.Shape) {
		one, _ := impl.ItemAt(a, place[:1])
		other, _ := impl.ItemAt(b, place[1:])
		if n, _ := impl.ItemAt(c, place); n != impl.Operate(impl.OpLess, one, other) {
			t.Errorf("OuterProduct(OpLess, %v, %v) has %d at %v", a, b, n, place)
		}
	}
}

func TestP40PairsAreLimited(t *testing.T) {
	for _, x := range []struct {
		a, b []int
		ok   bool
	}{
		{[]int{6}, []int{10}, true},
		{[]int{60}, []int{1}, true},
		{[]int{60}, nil, true},
		{[]int{3}, []int{4, 5}, true},
		{[]int{3, 4}, []int{5}, true},
		{[]int{60}, []int{60, 0}, true},
		{[]int{0, 60}, []int{60}, true},
		{[]int{8}, []int{8}, false},
		{[]int{31}, []int{2}, false},
		{[]int{60}, []int{60}, false},
		{[]int{60}, []int{2}, false},
		{[]int{1, 1}, []int{1, 1}, false},
		{[]int{1, 1, 1}, []int{1}, false},
		{[]int{1}, []int{1, 1, 1}, false},
		{[]int{0, 0}, []int{0, 0}, false},
		{[]int{2, 3, 4}, []int{2, 3, 4}, false},
		{[]int{2, 3, 4}, nil, true},
		{nil, []int{2, 3, 4}, true},
	} {
		a, b := filled(x.a), filled(x.b)
		if !x.ok {
			wantNoOuter(t, impl.OpMin, a, b)
		} else if c := outer(t, impl.OpMin, a, b); !slices.Equal(c.Shape, slices.Concat(x.a, x.b)) {
			t.Errorf("OuterProduct(OpMin, %v, %v) = %v", a, b, c)
		}
	}
}

func TestP40OtherArgumentsHaveNoPairs(t *testing.T) {
	good := []impl.Array{impl.ScalarOf(5), vector(5), vector(), filled([]int{2, 3}), filled([]int{0, 60})}
	for _, op := range otherFunctions() {
		for _, a := range good {
			wantNoOuter(t, op, a, impl.ScalarOf(1))
			wantNoOuter(t, op, impl.ScalarOf(1), a)
			wantNoOuter(t, op, vector(), a)
		}
	}
	for _, bad := range invalidArrays() {
		for _, a := range append(good, bad) {
			for _, op := range everyOp() {
				wantNoOuter(t, op, bad, a)
				wantNoOuter(t, op, a, bad)
			}
		}
	}
}

func TestP41PairsCanBeTurnedAround(t *testing.T) {
	vectors := []impl.Array{vector(), vector(7), vector(1, 2), vector(3, -4, 5), vector(0, 0, -9, 2), vector(impl.MaxNum, -impl.MaxNum), filled([]int{15})}
	for _, a := range vectors {
		for _, b := range vectors {
			if len(a.Data)*len(b.Data) > impl.MaxItems {
				continue
			}
			for _, op := range withoutOrder() {
				one, other := impl.Transpose(outer(t, op, a, b)), outer(t, op, b, a)
				if !equal(one, other) {
					t.Errorf("OuterProduct(%d, %v, %v): %v and %v", op, a, b, one, other)
				}
			}
		}
	}
}

func TestP42OneNumberIsAFunctionForAll(t *testing.T) {
	for _, a := range mixedSamples() {
		for _, n := range []int{0, 3, -3, impl.MaxNum, -impl.MaxNum} {
			one := impl.ScalarOf(n)
			for _, op := range everyOp() {
				if c := outer(t, op, one, a); !equal(c, combine(t, op, one, a)) {
					t.Errorf("OuterProduct(%d, %d, %v) = %v", op, n, a, c)
				}
				if c := outer(t, op, a, one); !equal(c, combine(t, op, a, one)) {
					t.Errorf("OuterProduct(%d, %v, %d) = %v", op, a, n, c)
				}
			}
		}
	}
}

func TestP43InnerProductsOfVectorsAreReductions(t *testing.T) {
	for length := range impl.MaxItems + 1 {
		a, b := mixed([]int{length}), filled([]int{length})
		for _, f := range everyOp() {
			for _, g := range everyOp() {
				c := inner(t, f, g, a, b)
				if want := reduce(t, f, combine(t, g, a, b), 0); !equal(c, want) {
					t.Errorf("InnerProduct(%d, %d, %v, %v) = %v, want %v", f, g, a, b, c, want)
				}
			}
		}
	}
}

func TestP43ProductsGoFromRightToLeft(t *testing.T) {
	m := impl.Array{Shape: []int{2, 3}, Data: []int{1, 2, 3, 4, 5, 6}}
	n := impl.Array{Shape: []int{3, 2}, Data: []int{7, 8, 9, 1, 2, 3}}
	for _, x := range []struct {
		f, g int
		a, b impl.Array
		want impl.Array
	}{
		{impl.OpSubtract, impl.OpTimes, vector(1, 2, 3), vector(4, 5, 6), impl.ScalarOf(12)},
		{impl.OpAdd, impl.OpSubtract, vector(1, 2), vector(5, 9), impl.ScalarOf(-11)},
		{impl.OpMin, impl.OpAdd, vector(1, 2), vector(3, 0), impl.ScalarOf(2)},
		{impl.OpAdd, impl.OpEqual, vector(1, 2, 3), vector(1, 5, 3), impl.ScalarOf(2)},
		{impl.OpAdd, impl.OpTimes, vector(1000, 1000, -1000), vector(1000, 1000, 1000), impl.ScalarOf(impl.MaxNum)},
		{impl.OpAdd, impl.OpTimes, m, n, impl.Array{Shape: []int{2, 2}, Data: []int{31, 19, 85, 55}}},
		{impl.OpSubtract, impl.OpTimes, m, n, impl.Array{Shape: []int{2, 2}, Data: []int{-5, 15, -5, 45}}},
		{impl.OpMax, impl.OpSubtract, m, n, impl.Array{Shape: []int{2, 2}, Data: []int{1, 1, 4, 4}}},
		{impl.OpAdd, impl.OpTimes, vector(1, 2), m, impl.Array{Shape: []int{3}, Data: []int{9, 12, 15}}},
		{impl.OpAdd, impl.OpTimes, m, vector(1, 2, 3), impl.Array{Shape: []int{2}, Data: []int{14, 32}}},
	} {
		if c := inner(t, x.f, x.g, x.a, x.b); !equal(c, x.want) {
			t.Errorf("InnerProduct(%d, %d, %v, %v) = %v", x.f, x.g, x.a, x.b, c)
		}
	}
}

func TestP43InnerProductsOfThreeAxes(t *testing.T) {
	for _, x := range []struct {
		a, b impl.Array
		want impl.Array
	}{
		{cube(), vector(1, 0, 0, 2), impl.Array{Shape: []int{2, 3}, Data: []int{9, 21, 33, 45, 57, 69}}},
		{vector(1, -1), cube(), impl.Array{Shape: []int{3, 4}, Data: slices.Repeat([]int{-12}, 12)}},
		{impl.Array{Shape: []int{1, 2}, Data: []int{1, -1}}, cube(), impl.Array{Shape: []int{1, 3, 4}, Data: slices.Repeat([]int{-12}, 12)}},
		{cube(), impl.Array{Shape: []int{4, 2}, Data: []int{1, 0, 0, 1, 0, 0, 0, 0}},
			impl.Array{Shape: []int{2, 3, 2}, Data: []int{1, 2, 5, 6, 9, 10, 13, 14, 17, 18, 21, 22}}},
	} {
		if c := inner(t, impl.OpAdd, impl.OpTimes, x.a, x.b); !equal(c, x.want) {
			t.Errorf("InnerProduct(OpAdd, OpTimes, %v, %v) = %v", x.a, x.b, c)
		}
	}
}

// Of every two samples the product is as told, or there is none.
func TestP43InnerProductsOfAllRanks(t *testing.T) {
	arrays := append(samples(), matrices()...)
	arrays = append(arrays, cube(), mixed([]int{4}), mixed([]int{4, 2, 5}), mixed([]int{1, 1, 4}), mixed([]int{0}))
	pairs := [][2]int{{impl.OpAdd, impl.OpTimes}, {impl.OpSubtract, impl.OpLess}, {impl.OpMin, impl.OpRest}, {impl.OpLess, impl.OpSubtract}}
	for _, a := range arrays {
		for _, b := range arrays {
			shape, ok := innerShape(a, b)
			for _, p := range pairs {
				if !ok || !isShape(shape) {
					wantNoInner(t, p[0], p[1], a, b)
				} else if c := inner(t, p[0], p[1], a, b); !equal(c, multiplied(p[0], p[1], a, b)) {
					t.Errorf("InnerProduct(%d, %d, %v, %v) = %v", p[0], p[1], a, b, c)
				}
			}
		}
	}
}

func TestP43ProductsOfNoNumbersAreNeutral(t *testing.T) {
	for _, x := range []struct{ a, b, want []int }{
		{[]int{0}, []int{0}, nil},
		{[]int{3, 0}, []int{0, 2}, []int{3, 2}},
		{[]int{3, 0}, []int{0}, []int{3}},
		{[]int{0}, []int{0, 60}, []int{60}},
		{[]int{3, 4, 0}, []int{0, 5}, []int{3, 4, 5}},
		{[]int{3, 0}, []int{0, 4, 5}, []int{3, 4, 5}},
		{[]int{60, 60, 0}, []int{0, 0}, []int{60, 60, 0}},
		{[]int{0, 0}, []int{0, 60, 60}, []int{0, 60, 60}},
	} {
		for i, neutral := range []int{0, 0, 1, impl.MaxNum, -impl.MaxNum, 1, 0, 0} {
			want := impl.Array{Shape: x.want, Data: slices.Repeat([]int{neutral}, product(x.want))}
			if c := inner(t, everyOp()[i], impl.OpTimes, impl.Array{Shape: x.a}, impl.Array{Shape: x.b}); !equal(c, want) {
				t.Errorf("InnerProduct(%d, OpTimes, nothing in %v and %v) = %v", everyOp()[i], x.a, x.b, c)
			}
		}
	}
}

func TestP43ProductsThatAreNotValid(t *testing.T) {
	for _, x := range [][2][]int{
		{nil, nil},
		{nil, {1}},
		{{1}, nil},
		{{2, 3}, {2, 3}},
		{{3}, {2}},
		{{1}, {2}},
		{{0}, {1}},
		{{8, 1}, {1, 8}},
		{{60, 0}, {0, 60}},
		{{60, 60, 0}, {0}},
		{{0}, {0, 60, 60}},
		{{31, 0}, {0, 2}},
		{{2, 2, 2}, {2, 2, 2}},
		{{0, 0, 0}, {0, 0, 0}},
		{{1, 1, 1}, {1, 1, 1}},
	} {
		wantNoInner(t, impl.OpAdd, impl.OpTimes, filled(x[0]), filled(x[1]))
		wantNoInner(t, impl.OpMin, impl.OpMax, filled(x[0]), filled(x[1]))
	}
}

func TestP43OtherArgumentsAreNotMultiplied(t *testing.T) {
	good := []impl.Array{vector(5), vector(), filled([]int{1, 1}), filled([]int{0, 3}), filled([]int{1, 0}), filled([]int{3, 1})}
	for _, op := range otherFunctions() {
		for _, a := range good {
			for _, b := range good {
				wantNoInner(t, op, impl.OpTimes, a, b)
				wantNoInner(t, impl.OpAdd, op, a, b)
				wantNoInner(t, op, op, a, b)
			}
		}
	}
	for _, bad := range invalidArrays() {
		for _, a := range append(good, bad, vector(5, 6), vector(5, 6, 7), impl.ScalarOf(5)) {
			wantNoInner(t, impl.OpAdd, impl.OpTimes, bad, a)
			wantNoInner(t, impl.OpAdd, impl.OpTimes, a, bad)
		}
	}
}

func TestP46ProductsOfMatricesCanBeTurnedAround(t *testing.T) {
	arrays := append(matrices(), vector(), vector(2), vector(1, -2), vector(3, 4, -5), cube(), mixed([]int{4, 3, 2}))
	for _, a := range arrays {
		for _, b := range arrays {
			if shape, ok := innerShape(a, b); !ok || !isShape(shape) {
				continue
			}
			c := sumProduct(t, a, b)
			other := sumProduct(t, impl.Transpose(b), impl.Transpose(a))
			if !equal(impl.Transpose(c), other) || !equal(c, multiplied(impl.OpAdd, impl.OpTimes, a, b)) {
				t.Errorf("SumProduct(%v, %v) = %v, and turned around %v", a, b, c, other)
			}
		}
	}
	m := impl.Array{Shape: []int{2, 3}, Data: []int{0, 1, 2, 3, 0, 1}}
	want := impl.Array{Shape: []int{2, 2}, Data: []int{5, 2, 2, 10}}
	if c := sumProduct(t, m, impl.Transpose(m)); !equal(c, want) {
		t.Errorf("SumProduct of %v and its Transpose = %v", m, c)
	}
}

func TestP152ZerosMakeZeros(t *testing.T) {
	most := impl.Array{Shape: []int{2, 2}, Data: []int{impl.MaxNum, -impl.MaxNum, impl.MaxNum, impl.MaxNum}}
	for _, a := range append(matrices(), most) {
		for _, length := range []int{0, 1, 2, 5, 60} {
			right := impl.Array{Shape: []int{a.Shape[1], length}, Data: make([]int, a.Shape[1]*length)}
			left := impl.Array{Shape: []int{length, a.Shape[0]}, Data: make([]int, a.Shape[0]*length)}
			for _, pair := range [][2]impl.Array{{a, right}, {left, a}} {
				shape, _ := innerShape(pair[0], pair[1])
				if !isShape(pair[0].Shape) || !isShape(pair[1].Shape) || !isShape(shape) {
					wantNoInner(t, impl.OpAdd, impl.OpTimes, pair[0], pair[1])
					continue
				}
				want := impl.Array{Shape: shape, Data: make([]int, product(shape))}
				if c := sumProduct(t, pair[0], pair[1]); !equal(c, want) {
					t.Errorf("SumProduct(%v, %v) = %v", pair[0], pair[1], c)
				}
			}
		}
	}
}

func TestProductsAreFresh(t *testing.T) {
	shapes := [][]int{nil, {0}, {3}, {3, 3}, {1, 3}, {3, 2}, {0, 3}, {3, 0}, {2, 3, 3}}
	for _, x := range shapes {
		for _, y := range shapes {
			a := impl.Array{Shape: roomy(x), Data: roomy(mixed(x).Data)}
			b := impl.Array{Shape: roomy(y), Data: roomy(mixed(y).Data)}
			lists := [][]int{a.Shape, a.Data, b.Shape, b.Data}
			before := wholes(lists)
			for range 2 {
				if c, ok := impl.OuterProduct(impl.OpMin, a, b); ok {
					lists = append(lists, c.Shape, c.Data)
				}
				if c, ok := impl.InnerProduct(impl.OpMin, impl.OpMax, a, b); ok {
					lists = append(lists, c.Shape, c.Data)
				}
				if c, ok := impl.SumProduct(a, b); ok {
					lists = append(lists, c.Shape, c.Data)
				}
			}
			wantKept(t, lists, before)
			wantApart(t, "products", lists...)
		}
	}
}
