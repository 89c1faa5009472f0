package tests

import (
	"math"
	"slices"
	"testing"

	"loop.example/arraylanguage/impl"
)

// everyOp are the functions of two numbers.
func everyOp() []int {
	return []int{impl.OpAdd, impl.OpSubtract, impl.OpTimes, impl.OpMin,
		impl.OpMax, impl.OpEqual, impl.OpLess, impl.OpRest}
}

// withoutOrder are the functions of two numbers that do not depend on their order.
func withoutOrder() []int {
	return []int{impl.OpAdd, impl.OpTimes, impl.OpMin, impl.OpMax, impl.OpEqual}
}

// everyFn are the functions of one number.
func everyFn() []int {
	return []int{impl.FnNegate, impl.FnSize, impl.FnSign, impl.FnNot}
}

// otherFunctions are numbers that no function has, neither of two numbers nor of one.
func otherFunctions() []int {
	return []int{0, -1, -8, 9, 10, 100, math.MaxInt, math.MinInt}
}

// numbers are small numbers, the limits, and numbers whose sums and products
// are near them.
func numbers() []int {
	list := []int{0}
	for _, n := range []int{1, 2, 3, 4, 5, 7, 10, 60, 999, 1000, 1001, 3000, 499999, 500000, 500001, 999998, 999999, impl.MaxNum} {
		list = append(list, n, -n)
	}
	return list
}

// limit returns what is left of an exact result.
func limit(n int) int {
	if n > impl.MaxNum {
		return impl.MaxNum
	}
	if n < -impl.MaxNum {
		return -impl.MaxNum
	}
	return n
}

// isPositiveRest reports whether r is the rest of b divided by a positive a.
func isPositiveRest(a, b, r int) bool {
	return 0 <= r && r < a && (b-r)%a == 0
}

// mixed returns an array of a valid shape with positive numbers, negative ones
// and zeros.
func mixed(shape []int) impl.Array {
	a := filled(shape)
	for i := range a.Data {
		a.Data[i] = (i%7 - 3) * (i + 1)
	}
	return a
}

// mixedSamples are valid arrays of every rank with numbers of every sign.
func mixedSamples() []impl.Array {
	list := samples()
	for _, a := range samples() {
		list = append(list, mixed(a.Shape))
	}
	return append(list, vector(numbers()...), vector(impl.MaxNum, -impl.MaxNum, 0))
}

// combine returns Combine of a call that has to succeed.
func combine(t *testing.T, op int, a, b impl.Array) impl.Array {
	t.Helper()
	c, ok := impl.Combine(op, a, b)
	if !ok || !impl.ValidArray(c) {
		t.Fatalf("Combine(%d, %v, %v) = %v, %v", op, a, b, c, ok)
	}
	return c
}

// operated returns Operate of the numbers of two arrays of one shape.
func operated(op int, a, b impl.Array) impl.Array {
	c := impl.Array{Shape: slices.Clone(a.Shape)}
	for i := range a.Data {
		c.Data = append(c.Data, impl.Operate(op, a.Data[i], b.Data[i]))
	}
	return c
}

func TestFunctionsHaveTheirNumbers(t *testing.T) {
	if !slices.Equal(everyOp(), []int{1, 2, 3, 4, 5, 6, 7, 8}) || !slices.Equal(everyFn(), []int{1, 2, 3, 4}) {
		t.Error(everyOp(), everyFn())
	}
}

func TestP24SumsAndProductsDoNotDependOnTheOrder(t *testing.T) {
	for _, a := range numbers() {
		for _, b := range numbers() {
			for _, op := range withoutOrder() {
				if one, other := impl.Operate(op, a, b), impl.Operate(op, b, a); one != other {
					t.Errorf("Operate(%d, %d, %d) = %d, and %d", op, a, b, one, other)
				}
			}
			for _, op := range everyOp() {
				if n := impl.Operate(op, a, b); n < -impl.MaxNum || n > impl.MaxNum {
					t.Errorf("Operate(%d, %d, %d) = %d", op, a, b, n)
				}
			}
		}
	}
}

func TestP24SumsDifferencesAndProductsAreLimited(t *testing.T) {
	for _, a := range numbers() {
		for _, b := range numbers() {
			for op, want := range map[int]int{
				impl.OpAdd:      limit(a + b),
				impl.OpSubtract: limit(a - b),
				impl.OpTimes:    limit(a * b),
			} {
				if n := impl.Operate(op, a, b); n != want {
					t.Errorf("Operate(%d, %d, %d) = %d, want %d", op, a, b, n, want)
				}
			}
		}
	}
}

func TestP24NumbersAreCompared(t *testing.T) {
	for _, x := range []struct{ a, b, less, greater, equal, isLess int }{
		{2, 5, 2, 5, 0, 1},
		{5, 2, 2, 5, 0, 0},
		{5, 5, 5, 5, 1, 0},
		{-5, 2, -5, 2, 0, 1},
		{2, -5, -5, 2, 0, 0},
		{-5, -4, -5, -4, 0, 1},
		{0, 0, 0, 0, 1, 0},
		{-impl.MaxNum, impl.MaxNum, -impl.MaxNum, impl.MaxNum, 0, 1},
		{impl.MaxNum, impl.MaxNum, impl.MaxNum, impl.MaxNum, 1, 0},
	} {
		got := []int{impl.Operate(impl.OpMin, x.a, x.b), impl.Operate(impl.OpMax, x.a, x.b),
			impl.Operate(impl.OpEqual, x.a, x.b), impl.Operate(impl.OpLess, x.a, x.b)}
		if !slices.Equal(got, []int{x.less, x.greater, x.equal, x.isLess}) {
			t.Errorf("%d and %d: %v", x.a, x.b, got)
		}
	}
}

func TestP24OtherArgumentsAreZero(t *testing.T) {
	for _, op := range otherFunctions() {
		for _, a := range numbers() {
			if n := impl.Operate(op, a, 5); n != 0 {
				t.Errorf("Operate(%d, %d, 5) = %d", op, a, n)
			}
		}
	}
	for _, op := range everyOp() {
		for _, far := range beyond() {
			for _, near := range []int{0, 1, -1, 5, -5, impl.MaxNum, -impl.MaxNum, far} {
				if n := impl.Operate(op, far, near); n != 0 {
					t.Errorf("Operate(%d, %d, %d) = %d", op, far, near, n)
				}
				if n := impl.Operate(op, near, far); n != 0 {
					t.Errorf("Operate(%d, %d, %d) = %d", op, near, far, n)
				}
			}
		}
	}
}

func TestP25RestsAreSmall(t *testing.T) {
	for _, a := range numbers() {
		for _, b := range numbers() {
			n := impl.Operate(impl.OpRest, a, b)
			if a > 0 && !isPositiveRest(a, b, n) {
				t.Errorf("the rest of %d divided by %d is %d", b, a, n)
			}
			if a <= 0 && n != b {
				t.Errorf("the rest of %d divided by %d is %d", b, a, n)
			}
		}
	}
	for _, x := range [][3]int{{3, 7, 1}, {3, -7, 2}, {3, -6, 0}, {3, 6, 0}, {7, 3, 3}, {1, -5, 0}, {0, -5, -5}, {-3, -5, -5},
		{impl.MaxNum, -1, impl.MaxNum - 1}, {impl.MaxNum, impl.MaxNum, 0}, {impl.MaxNum, -impl.MaxNum, 0}} {
		if n := impl.Operate(impl.OpRest, x[0], x[1]); n != x[2] {
			t.Errorf("the rest of %d divided by %d is %d", x[1], x[0], n)
		}
	}
}

func TestP26DifferencesAreOpposite(t *testing.T) {
	for _, a := range numbers() {
		for _, b := range numbers() {
			opposite := impl.Operate(impl.OpTimes, b, -1)
			one, other := impl.Operate(impl.OpSubtract, a, b), impl.Operate(impl.OpAdd, a, opposite)
			if one != other || one != limit(a-b) {
				t.Errorf("%d minus %d is %d, and %d", a, b, one, other)
			}
		}
	}
}

func TestP27FunctionsWorkNumberByNumber(t *testing.T) {
	for _, a := range mixedSamples() {
		b := impl.Array{Shape: slices.Clone(a.Shape)}
		for i := range a.Data {
			b.Data = append(b.Data, i%5-2)
		}
		for _, op := range everyOp() {
			if c := combine(t, op, a, b); !equal(c, operated(op, a, b)) {
				t.Errorf("Combine(%d, %v, %v) = %v", op, a, b, c)
			}
			if c := combine(t, op, b, a); !equal(c, operated(op, b, a)) {
				t.Errorf("Combine(%d, %v, %v) = %v", op, b, a, c)
			}
		}
	}
}

func TestP27OtherShapesAreNotCombined(t *testing.T) {
	for _, a := range samples() {
		for _, b := range samples() {
			same := slices.Equal(a.Shape, b.Shape) || len(a.Shape) == 0 || len(b.Shape) == 0
			c, ok := impl.Combine(impl.OpMin, a, b)
			if ok != same || !ok && !isZero(c) {
				t.Errorf("Combine(OpMin, %v, %v) = %v, %v", a, b, c, ok)
			}
		}
	}
}

func TestP27OtherArgumentsAreNotCombined(t *testing.T) {
	for _, op := range otherFunctions() {
		for _, a := range samples() {
			for _, b := range []impl.Array{a, impl.ScalarOf(5)} {
				if c, ok := impl.Combine(op, a, b); ok || !isZero(c) {
					t.Errorf("Combine(%d, %v, %v) = %v, %v", op, a, b, c, ok)
				}
			}
		}
	}
	for _, bad := range invalidArrays() {
		for _, good := range []impl.Array{impl.ScalarOf(5), vector(5), vector(5, 6, 7), vector(), bad} {
			for _, op := range everyOp() {
				if c, ok := impl.Combine(op, bad, good); ok || !isZero(c) {
					t.Errorf("Combine(%d, %v, %v) = %v, %v", op, bad, good, c, ok)
				}
				if c, ok := impl.Combine(op, good, bad); ok || !isZero(c) {
					t.Errorf("Combine(%d, %v, %v) = %v, %v", op, good, bad, c, ok)
				}
			}
		}
	}
}

func TestP28ANumberStandsForMany(t *testing.T) {
	for _, a := range mixedSamples() {
		for _, n := range []int{0, 3, -3, impl.MaxNum, -impl.MaxNum} {
			one := impl.ScalarOf(n)
			many := impl.Array{Shape: a.Shape, Data: slices.Repeat([]int{n}, len(a.Data))}
			for _, op := range everyOp() {
				left, right := combine(t, op, one, a), combine(t, op, a, one)
				if !equal(left, combine(t, op, many, a)) || !equal(left, operated(op, many, a)) {
					t.Errorf("Combine(%d, %d, %v) = %v", op, n, a, left)
				}
				if !equal(right, combine(t, op, a, many)) || !equal(right, operated(op, a, many)) {
					t.Errorf("Combine(%d, %v, %d) = %v", op, a, n, right)
				}
			}
		}
	}
}

// A single number in an axis is no number without axes.
func TestP28OneNumberWithAnAxisStandsForOne(t *testing.T) {
	for _, shape := range [][]int{{1}, {1, 1}, {1, 1, 1}} {
		one := impl.Array{Shape: shape, Data: []int{5}}
		for _, a := range []impl.Array{vector(), vector(1, 2), filled([]int{2, 3}), filled([]int{2, 3, 4})} {
			if c, ok := impl.Combine(impl.OpAdd, one, a); ok || !isZero(c) {
				t.Errorf("Combine(OpAdd, %v, %v) = %v, %v", one, a, c, ok)
			}
			if c, ok := impl.Combine(impl.OpAdd, a, one); ok || !isZero(c) {
				t.Errorf("Combine(OpAdd, %v, %v) = %v, %v", a, one, c, ok)
			}
		}
		want := impl.Array{Shape: shape, Data: []int{7}}
		if c := combine(t, impl.OpAdd, one, impl.ScalarOf(2)); !equal(c, want) {
			t.Errorf("Combine(OpAdd, %v, 2) = %v", one, c)
		}
	}
}

func TestP29ShapesDoNotMatterForFunctions(t *testing.T) {
	for _, a := range mixedSamples() {
		if len(a.Shape) == 0 {
			continue
		}
		b := impl.ReverseAxis(a, len(a.Shape)-1)
		for _, op := range everyOp() {
			one := impl.Ravel(combine(t, op, a, b))
			other := combine(t, op, impl.Ravel(a), impl.Ravel(b))
			if !equal(one, other) {
				t.Errorf("Combine(%d, %v, %v): %v and %v", op, a, b, one, other)
			}
		}
	}
}

// mapped returns MapArray of a call that has to succeed.
func mapped(t *testing.T, fn int, a impl.Array) impl.Array {
	t.Helper()
	b := impl.MapArray(fn, a)
	if !impl.ValidArray(b) || !slices.Equal(b.Shape, a.Shape) {
		t.Fatalf("MapArray(%d, %v) = %v", fn, a, b)
	}
	return b
}

func TestP30SignsAndSizesMakeNumbers(t *testing.T) {
	for _, a := range mixedSamples() {
		sign, size := mapped(t, impl.FnSign, a), mapped(t, impl.FnSize, a)
		if b := combine(t, impl.OpTimes, sign, size); !equal(b, a) {
			t.Errorf("%v times %v is not %v", sign, size, a)
		}
		if b := mapped(t, impl.FnNegate, mapped(t, impl.FnNegate, a)); !equal(b, a) {
			t.Errorf("%v twice negated is %v", a, b)
		}
		if b := combine(t, impl.OpTimes, impl.ScalarOf(-1), a); !equal(b, mapped(t, impl.FnNegate, a)) {
			t.Errorf("%v times -1 is %v", a, b)
		}
	}
}

func TestP30SignsAreSmall(t *testing.T) {
	a := vector(3, -4, 0, 1, -1, impl.MaxNum, -impl.MaxNum)
	for fn, want := range map[int]impl.Array{
		impl.FnNegate: vector(-3, 4, 0, -1, 1, -impl.MaxNum, impl.MaxNum),
		impl.FnSize:   vector(3, 4, 0, 1, 1, impl.MaxNum, impl.MaxNum),
		impl.FnSign:   vector(1, -1, 0, 1, -1, 1, -1),
		impl.FnNot:    vector(0, 0, 1, 0, 0, 0, 0),
	} {
		if b := mapped(t, fn, a); !equal(b, want) {
			t.Errorf("MapArray(%d, %v) = %v", fn, a, b)
		}
	}
}

func TestP30OtherArgumentsAreNotMapped(t *testing.T) {
	for _, fn := range append(otherFunctions(), 5, 6, 7, 8) {
		for _, a := range samples() {
			if b := impl.MapArray(fn, a); !isZero(b) {
				t.Errorf("MapArray(%d, %v) = %v", fn, a, b)
			}
		}
	}
	for _, fn := range everyFn() {
		for _, a := range invalidArrays() {
			if b := impl.MapArray(fn, a); !isZero(b) {
				t.Errorf("MapArray(%d, %v) = %v", fn, a, b)
			}
		}
	}
}

func TestP31OppositesAreZeroOrOne(t *testing.T) {
	for _, a := range mixedSamples() {
		not := mapped(t, impl.FnNot, a)
		if b := combine(t, impl.OpEqual, a, impl.ScalarOf(0)); !equal(b, not) {
			t.Errorf("MapArray(FnNot, %v) = %v, and OpEqual %v", a, not, b)
		}
		twice := mapped(t, impl.FnNot, not)
		for i, n := range a.Data {
			want := 1
			if n == 0 {
				want = 0
			}
			if twice.Data[i] != want || not.Data[i] != 1-want {
				t.Errorf("FnNot of %d is %d, and twice %d", n, not.Data[i], twice.Data[i])
			}
		}
	}
}

func TestP32NeutralNumbersChangeNothing(t *testing.T) {
	for _, op := range []int{impl.OpAdd, impl.OpSubtract, impl.OpTimes, impl.OpMin, impl.OpMax} {
		for _, n := range numbers() {
			if got := impl.Operate(op, n, impl.NeutralOf(op)); got != n {
				t.Errorf("Operate(%d, %d, %d) = %d", op, n, impl.NeutralOf(op), got)
			}
		}
	}
}

func TestP32EveryFunctionHasItsNeutralNumber(t *testing.T) {
	want := []int{0, 0, 1, impl.MaxNum, -impl.MaxNum, 1, 0, 0}
	for i, op := range everyOp() {
		if n := impl.NeutralOf(op); n != want[i] {
			t.Errorf("NeutralOf(%d) = %d", op, n)
		}
	}
	for _, op := range otherFunctions() {
		if n := impl.NeutralOf(op); n != 0 {
			t.Errorf("NeutralOf(%d) = %d", op, n)
		}
	}
}

func TestP141SomeFunctionsHaveNoOrder(t *testing.T) {
	for _, a := range mixedSamples() {
		others := []impl.Array{impl.MapArray(impl.FnNegate, a), mixed(a.Shape), impl.ScalarOf(0), impl.ScalarOf(-7), impl.ScalarOf(impl.MaxNum)}
		for _, b := range others {
			for _, op := range withoutOrder() {
				if one, other := combine(t, op, a, b), combine(t, op, b, a); !equal(one, other) {
					t.Errorf("Combine(%d, %v, %v) = %v, and %v", op, a, b, one, other)
				}
			}
		}
	}
}

func TestP142ArraysAreEqualToThemselves(t *testing.T) {
	for _, a := range mixedSamples() {
		for _, x := range []struct{ op, n int }{{impl.OpEqual, 1}, {impl.OpLess, 0}} {
			want := impl.Array{Shape: a.Shape, Data: slices.Repeat([]int{x.n}, len(a.Data))}
			if b := combine(t, x.op, a, a); !equal(b, want) {
				t.Errorf("Combine(%d, %v) of itself = %v", x.op, a, b)
			}
		}
		if b := combine(t, impl.OpMin, a, a); !equal(b, a) {
			t.Errorf("Combine(OpMin, %v) of itself = %v", a, b)
		}
	}
}

func TestP156SizesAreNotNegative(t *testing.T) {
	for _, a := range mixedSamples() {
		size := mapped(t, impl.FnSize, a)
		for i, n := range size.Data {
			if n < 0 || n != a.Data[i] && n != -a.Data[i] {
				t.Errorf("the size of %d is %d", a.Data[i], n)
			}
		}
		if b := mapped(t, impl.FnSize, mapped(t, impl.FnNegate, a)); !equal(b, size) {
			t.Errorf("MapArray(FnSize, %v) = %v, and of the opposite array %v", a, size, b)
		}
	}
}

func TestResultsOfFunctionsAreFresh(t *testing.T) {
	for _, sample := range samples() {
		a := impl.Array{Shape: roomy(sample.Shape), Data: roomy(sample.Data)}
		b := impl.Array{Shape: roomy(sample.Shape), Data: roomy(sample.Data)}
		one := impl.Array{Data: roomy([]int{3})}
		lists := [][]int{a.Shape, a.Data, b.Shape, b.Data, one.Data}
		before := wholes(lists)
		for _, op := range everyOp() {
			for _, c := range []impl.Array{combine(t, op, a, b), combine(t, op, a, one), combine(t, op, one, a), combine(t, op, a, a)} {
				lists = append(lists, c.Shape, c.Data)
			}
		}
		for _, fn := range everyFn() {
			c := mapped(t, fn, a)
			lists = append(lists, c.Shape, c.Data)
		}
		wantKept(t, lists, before)
		wantApart(t, "functions", lists...)
	}
}
