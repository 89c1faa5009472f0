package tests

import (
	"math"
	"slices"
	"testing"

	"loop.example/arraylanguage/impl"
)

// validBases are bases whose numbers are few enough.
func validBases() [][]int {
	return [][]int{
		{1}, {2}, {10}, {1000}, {1, 1}, {1, 5}, {5, 1}, {24, 60}, {2, 3}, {3, 2}, {2, 1, 3}, {1, 2, 1},
		{7, 24, 60}, {1000, 1000}, {999, 1000}, {1000, 1, 1000}, {1000, 1000, 1}, {100, 100, 100},
		{10, 10, 10, 10}, {2, 3, 4, 5, 6, 7}, {10, 10, 10, 10, 10, 10}, {1, 1, 1, 1, 1, 1}, {1, 1, 1, 1, 1, 9},
		{9, 1, 1, 1, 1, 1}, {1000, 1, 1, 1, 1, 1000}, {2, 2, 2, 2, 2, 2},
	}
}

// otherBases are bases that are not valid.
func otherBases() [][]int {
	return [][]int{
		nil, {}, {0}, {-1}, {-2}, {1001}, {math.MaxInt}, {math.MinInt}, {0, 5}, {5, 0}, {-2, -3}, {2, -1, -5}, {5, 1001},
		{1001, 5}, {1, 1, 1, 1, 1, 1, 1}, {2, 2, 2, 2, 2, 2, 2}, make([]int, 100), {1000, 1000, 2}, {2, 1000, 1000},
		{101, 100, 100}, {1000, 1000, 1000, 1000, 1000, 1000}, {11, 10, 10, 10, 10, 10},
		{math.MaxInt, math.MaxInt}, {1 << 32, 1 << 32}, {0, 0, 0, 0, 0, 0}, {1000, 0, 1000}, {1000, 1000, 1000, 0},
	}
}

// everyNumber calls f for numbers that have digits of valid bases: the first
// ones, the last ones and some between.
func everyNumber(f func(bases []int, n int)) {
	for _, bases := range validBases() {
		count := product(bases)
		step := max(1, count/997)
		for n := 0; n < count; n += step {
			f(bases, n)
		}
		for n := max(0, count-70); n < count; n++ {
			f(bases, n)
		}
		for n := range min(count, 70) {
			f(bases, n)
		}
	}
}

// encode returns EncodeNum of a call that has to succeed.
func encode(t *testing.T, bases []int, n int) []int {
	t.Helper()
	digits := impl.EncodeNum(bases, n)
	if len(digits) != len(bases) {
		t.Fatalf("EncodeNum(%v, %d) = %v", bases, n, digits)
	}
	return digits
}

// polyAt returns PolyAt of a call that has to succeed.
func polyAt(t *testing.T, a impl.Array, x int) int {
	t.Helper()
	n, ok := impl.PolyAt(a, x)
	if !ok {
		t.Fatalf("PolyAt(%v, %d) = %d, %v", a, x, n, ok)
	}
	return n
}

// bitsOf returns BitsOf a number that has them.
func bitsOf(t *testing.T, n int) impl.Array {
	t.Helper()
	a := impl.BitsOf(n)
	if !impl.ValidArray(a) || len(a.Shape) != 1 || len(a.Data) == 0 {
		t.Fatalf("BitsOf(%d) = %v", n, a)
	}
	return a
}

func TestP70DigitsCanBeDecoded(t *testing.T) {
	everyNumber(func(bases []int, n int) {
		digits := encode(t, bases, n)
		for i, digit := range digits {
			if digit < 0 || digit >= bases[i] {
				t.Errorf("EncodeNum(%v, %d) = %v", bases, n, digits)
			}
		}
		if got := impl.DecodeNum(bases, digits); got != n {
			t.Errorf("DecodeNum(%v, %v) = %d, want %d", bases, digits, got, n)
		}
	})
}

func TestP70NumbersHaveTheirDigits(t *testing.T) {
	for _, x := range []struct {
		bases  []int
		n      int
		digits []int
	}{
		{[]int{24, 60}, 100, []int{1, 40}},
		{[]int{24, 60}, 0, []int{0, 0}},
		{[]int{24, 60}, 1439, []int{23, 59}},
		{[]int{7, 24, 60}, 10079, []int{6, 23, 59}},
		{[]int{1}, 0, []int{0}},
		{[]int{1, 5, 1}, 3, []int{0, 3, 0}},
		{[]int{2, 1, 3}, 4, []int{1, 0, 1}},
		{[]int{1000, 1000}, 999999, []int{999, 999}},
		{[]int{10, 10, 10, 10, 10, 10}, 123456, []int{1, 2, 3, 4, 5, 6}},
		{[]int{2, 3, 4, 5, 6, 7}, 1, []int{0, 0, 0, 0, 0, 1}},
		{[]int{2, 3, 4, 5, 6, 7}, 2520, []int{1, 0, 0, 0, 0, 0}},
	} {
		if digits := encode(t, x.bases, x.n); !slices.Equal(digits, x.digits) {
			t.Errorf("EncodeNum(%v, %d) = %v", x.bases, x.n, digits)
		}
		if n := impl.DecodeNum(x.bases, x.digits); n != x.n {
			t.Errorf("DecodeNum(%v, %v) = %d", x.bases, x.digits, n)
		}
	}
}

func TestP70OtherNumbersHaveNoDigits(t *testing.T) {
	for _, bases := range validBases() {
		count := product(bases)
		for _, n := range []int{-1, count, count + 1, -count, impl.MaxNum, impl.MaxNum + 1, math.MaxInt, math.MinInt} {
			if digits := impl.EncodeNum(bases, n); len(digits) != 0 {
				t.Errorf("EncodeNum(%v, %d) = %v", bases, n, digits)
			}
		}
	}
	for _, bases := range otherBases() {
		for _, n := range []int{0, 1, -1, 5, impl.MaxNum} {
			if digits := impl.EncodeNum(bases, n); len(digits) != 0 {
				t.Errorf("EncodeNum(%v, %d) = %v", bases, n, digits)
			}
		}
	}
}

func TestP71NumbersFollowEachOther(t *testing.T) {
	everyNumber(func(bases []int, n int) {
		if n+1 == product(bases) {
			return
		}
		last := len(bases) - 1
		one, next := encode(t, bases, n)[last], encode(t, bases, n+1)[last]
		if next != one+1 && (next != 0 || one != bases[last]-1) {
			t.Errorf("in %v, %d behind %d ends with %d behind %d", bases, n+1, n, next, one)
		}
	})
}

func TestP72NumbersCanBeEncoded(t *testing.T) {
	everyNumber(func(bases []int, n int) {
		// These are digits for the first numbers, and for some others.
		digits := make([]int, len(bases))
		for i, base := range bases {
			digits[i] = (n + 3*i*n) % base
		}
		m := impl.DecodeNum(bases, digits)
		if again := impl.EncodeNum(bases, m); m < 0 || !slices.Equal(again, digits) {
			t.Errorf("DecodeNum(%v, %v) = %d, and encoded %v", bases, digits, m, again)
		}
	})
}

// wantNoNumber fails unless DecodeNum returns -1.
func wantNoNumber(t *testing.T, bases, digits []int) {
	t.Helper()
	if n := impl.DecodeNum(bases, digits); n != -1 {
		t.Errorf("DecodeNum(%v, %v) = %d", bases, digits, n)
	}
}

func TestP72OtherDigitsHaveNoNumber(t *testing.T) {
	for _, bases := range validBases() {
		zeros := make([]int, len(bases))
		wantNoNumber(t, bases, nil)
		wantNoNumber(t, bases, zeros[1:])
		wantNoNumber(t, bases, append(slices.Clone(zeros), 0))
		for i, base := range bases {
			for _, digit := range []int{-1, base, base + 1, math.MaxInt, math.MinInt} {
				wantNoNumber(t, bases, withLength(zeros, i, digit))
			}
		}
	}
	for _, bases := range otherBases() {
		wantNoNumber(t, bases, nil)
		wantNoNumber(t, bases, make([]int, len(bases)))
		wantNoNumber(t, bases, slices.Repeat([]int{-1}, len(bases)))
	}
	// Another digit does not make up for one that is too great.
	wantNoNumber(t, []int{24, 60}, []int{1, 60})
	wantNoNumber(t, []int{24, 60}, []int{2, -60})
	wantNoNumber(t, []int{24, 60}, []int{-1, 60})
}

func TestP73PolynomialsBeginWithTheHighestPower(t *testing.T) {
	for _, a := range vectors() {
		last := 0
		if len(a.Data) > 0 {
			last = a.Data[len(a.Data)-1]
		}
		if n := polyAt(t, a, 0); n != last {
			t.Errorf("PolyAt(%v, 0) = %d", a, n)
		}
		total, isLimited := 0, false
		for _, n := range a.Data {
			total += n
			isLimited = isLimited || total != limit(total)
		}
		if n := polyAt(t, a, 1); !isLimited && n != total {
			t.Errorf("PolyAt(%v, 1) = %d", a, n)
		}
	}
	for _, x := range []struct {
		a       impl.Array
		x, want int
	}{
		{vector(1, 2, 3), 10, 123},
		{vector(1, 2, 3), -10, 83},
		{vector(2, 0, -1), 3, 17},
		{vector(), 5, 0},
		{vector(-7), impl.MaxNum, -7},
		{vector(1, 0, 0), 1000, impl.MaxNum},
		{vector(1, 0), -impl.MaxNum, -impl.MaxNum},
	} {
		if n := polyAt(t, x.a, x.x); n != x.want {
			t.Errorf("PolyAt(%v, %d) = %d", x.a, x.x, n)
		}
	}
}

func TestP74PolynomialsGoStepByStep(t *testing.T) {
	for _, a := range vectors() {
		for _, x := range numbers() {
			// The last number is taken away, and then added again.
			want, rest := 0, a
			if len(a.Data) > 0 {
				rest = impl.DropAxis(a, 0, -1)
				last := a.Data[len(a.Data)-1]
				want = impl.Operate(impl.OpAdd, impl.Operate(impl.OpTimes, polyAt(t, rest, x), x), last)
			}
			if n := polyAt(t, a, x); n != want || n != limit(n) {
				t.Errorf("PolyAt(%v, %d) = %d, want %d", a, x, n, want)
			}
		}
	}
}

// Both the product and the sum are limited, at every step.
func TestP74EveryStepIsLimited(t *testing.T) {
	const most = impl.MaxNum
	for _, x := range []struct {
		a       impl.Array
		x, want int
	}{
		{vector(1000, -most), 2000, 0},
		{vector(-1000, most), 2000, 0},
		{vector(most, 5, 0), -1, most - 5},
		{vector(2, 0, 0, 1), 1000, most},
		{vector(1, 0, 0, -1), 1000, most - 1},
		{vector(most, most, -most), 1, 0},
		{vector(most, most), most, most},
		{vector(most, -1, 0), -most, most},
		{vector(-most, -most, most), 1, 0},
	} {
		if n := polyAt(t, x.a, x.x); n != x.want {
			t.Errorf("PolyAt(%v, %d) = %d, want %d", x.a, x.x, n, x.want)
		}
	}
}

func TestP74OtherArgumentsAreNoPolynomials(t *testing.T) {
	for _, a := range vectors() {
		for _, x := range beyond() {
			if n, ok := impl.PolyAt(a, x); ok || n != 0 {
				t.Errorf("PolyAt(%v, %d) = %d, %v", a, x, n, ok)
			}
		}
	}
	for _, a := range otherVectors() {
		for _, x := range []int{0, 1, -3} {
			if n, ok := impl.PolyAt(a, x); ok || n != 0 {
				t.Errorf("PolyAt(%v, %d) = %d, %v", a, x, n, ok)
			}
		}
	}
}

func TestP75BitsMakeNumbers(t *testing.T) {
	for n := 0; n <= impl.MaxNum; n += 1 + n/1000 {
		a := bitsOf(t, n)
		if got := polyAt(t, a, 2); got != n {
			t.Errorf("BitsOf(%d) = %v, and PolyAt 2 %d", n, a, got)
		}
		if (a.Data[0] == 1) != (n != 0) {
			t.Errorf("BitsOf(%d) = %v", n, a)
		}
		for _, bit := range a.Data {
			if bit != 0 && bit != 1 {
				t.Errorf("BitsOf(%d) = %v", n, a)
			}
		}
	}
}

func TestP75NumbersHaveTheirBits(t *testing.T) {
	for n, want := range map[int]impl.Array{
		0:           vector(0),
		1:           vector(1),
		2:           vector(1, 0),
		6:           vector(1, 1, 0),
		7:           vector(1, 1, 1),
		8:           vector(1, 0, 0, 0),
		1 << 19:     vector(append([]int{1}, make([]int, 19)...)...),
		impl.MaxNum: vector(1, 1, 1, 1, 0, 1, 0, 0, 0, 0, 1, 0, 0, 1, 0, 0, 0, 0, 0, 0),
	} {
		if a := bitsOf(t, n); !equal(a, want) {
			t.Errorf("BitsOf(%d) = %v", n, a)
		}
	}
	for _, n := range append(beyond(), -1, -2, -impl.MaxNum) {
		if a := impl.BitsOf(n); !isZero(a) {
			t.Errorf("BitsOf(%d) = %v", n, a)
		}
	}
}

func TestP162TheLastDigitIsARest(t *testing.T) {
	everyNumber(func(bases []int, n int) {
		last := len(bases) - 1
		if digit := encode(t, bases, n)[last]; digit != impl.Operate(impl.OpRest, bases[last], n) {
			t.Errorf("EncodeNum(%v, %d) ends with %d", bases, n, digit)
		}
	})
}

func TestP163DoublingAddsAZero(t *testing.T) {
	for n := 1; 2*n <= impl.MaxNum; n += 1 + n/1000 {
		one, double := bitsOf(t, n), bitsOf(t, 2*n)
		if !equal(double, join(t, one, vector(0), 0)) {
			t.Errorf("BitsOf(%d) = %v, and of twice as much %v", n, one, double)
		}
	}
	if a := bitsOf(t, impl.MaxNum/2); !equal(bitsOf(t, impl.MaxNum), join(t, a, vector(0), 0)) {
		t.Errorf("BitsOf(%d) = %v", impl.MaxNum/2, a)
	}
}

func TestDigitsAreFresh(t *testing.T) {
	for _, list := range validBases() {
		bases, digits := roomy(list), roomy(make([]int, len(list)))
		v := impl.Array{Shape: roomy([]int{len(list)}), Data: roomy(list)}
		arguments := [][]int{bases, digits, v.Shape, v.Data}
		before := wholes(arguments)
		lists := slices.Clone(arguments)
		for range 2 {
			bits := bitsOf(t, len(list)-1)
			lists = append(lists, encode(t, bases, 0), bits.Shape, bits.Data)
			impl.DecodeNum(bases, digits)
			impl.PolyAt(v, 2)
		}
		wantKept(t, arguments, before)
		wantApart(t, "digits", lists...)
	}
}
