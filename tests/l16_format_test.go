package tests

import (
	"slices"
	"strconv"
	"strings"
	"testing"

	"loop.example/arraylanguage/impl"
)

// spelled returns numbers as a text, separated by spaces.
func spelled(list []int) string {
	var texts []string
	for _, n := range list {
		texts = append(texts, strings.Replace(strconv.Itoa(n), "-", "_", 1))
	}
	return strings.Join(texts, " ")
}

// isAlone reports whether the numbers of an array are written without a shape.
func isAlone(a impl.Array) bool {
	return len(a.Shape) == 0 || len(a.Shape) == 1 && len(a.Data) >= 2
}

// formatted returns FormatArray of a valid array.
func formatted(t *testing.T, a impl.Array) string {
	t.Helper()
	s := impl.FormatArray(a)
	if s == "" || strings.Trim(s, " ") != s || strings.Contains(s, "  ") {
		t.Fatalf("FormatArray(%v) = %q", a, s)
	}
	return s
}

// rows returns RowsOf of a valid array.
func rows(t *testing.T, a impl.Array) []string {
	t.Helper()
	if !impl.ValidArray(a) {
		t.Fatalf("%v is not valid", a)
	}
	return impl.RowsOf(a)
}

// writtenArrays are valid arrays of every small shape, with numbers of every
// sign and length.
func writtenArrays() []impl.Array {
	list := append(mixedSamples(), vectors()...)
	for _, n := range numbers() {
		list = append(list, impl.ScalarOf(n), vector(n), shaped([]int{1, 1}, n), shaped([]int{1, 1, 1}, n), vector(n, -n), shaped([]int{2, 1}, n, n))
	}
	everyShape(0, 4, func(shape []int) {
		if isShape(shape) {
			list = append(list, filled(shape), mixed(shape))
		}
	})
	return list
}

func TestP109ArraysAreTextsOfTheLanguage(t *testing.T) {
	done := 0
	for _, a := range writtenArrays() {
		s := formatted(t, a)
		count := len(a.Data)
		if !isAlone(a) {
			count = max(count, 1) + len(a.Shape) + 1
		}
		fits := len(s) <= impl.MaxText && count <= impl.MaxTokens
		if fits {
			done++
		}
		for _, vars := range namings()[:2] {
			b, ok := evalText(t, s, vars)
			if ok != fits || ok && !equal(b, a) {
				t.Errorf("FormatArray(%v) = %q, but EvalText of it is %v, %v", a, s, b, ok)
			}
		}
	}
	if done < 500 {
		t.Errorf("only %d texts are short enough", done)
	}
}

func TestP109ArraysHaveTheirTexts(t *testing.T) {
	for _, x := range []struct {
		a    impl.Array
		want string
	}{
		{impl.ScalarOf(0), "0"}, {impl.ScalarOf(5), "5"}, {impl.ScalarOf(-5), "_5"}, {impl.ScalarOf(impl.MaxNum), "1000000"}, {impl.ScalarOf(-impl.MaxNum), "_1000000"},
		{vector(), "0#0"}, {vector(5), "1#5"}, {vector(-5), "1#_5"}, {vector(0), "1#0"}, {vector(7, -8), "7 _8"}, {vector(0, 0), "0 0"}, {vector(1, 2, 3), "1 2 3"},
		{plainNames()[1], "2 3#0 1 2 3 0 1"}, {shaped([]int{1, 1}, 4), "1 1#4"}, {shaped([]int{1, 2}, 4, -5), "1 2#4 _5"}, {shaped([]int{2, 1}, 4, -5), "2 1#4 _5"},
		{shaped([]int{2, 0}), "2 0#0"}, {shaped([]int{0, 2}), "0 2#0"}, {shaped([]int{0, 0}), "0 0#0"}, {shaped([]int{60, 60, 0}), "60 60 0#0"},
		{shaped([]int{1, 1, 1}, -9), "1 1 1#_9"}, {shaped([]int{1, 2, 2}, 1, 2, 3, 4), "1 2 2#1 2 3 4"},
	} {
		if s := formatted(t, x.a); s != x.want {
			t.Errorf("FormatArray(%v) = %q, want %q", x.a, s, x.want)
		}
	}
	for _, a := range writtenArrays() {
		want := spelled(a.Data)
		if len(a.Data) == 0 {
			want = "0"
		}
		if !isAlone(a) {
			want = spelled(a.Shape) + "#" + want
		}
		if s := formatted(t, a); s != want {
			t.Errorf("FormatArray(%v) = %q, want %q", a, s, want)
		}
	}
}

func TestP109OtherArraysHaveNoTexts(t *testing.T) {
	for _, a := range invalidArrays() {
		if s := impl.FormatArray(a); s != "" {
			t.Errorf("FormatArray(%v) = %q", a, s)
		}
		if list := impl.RowsOf(a); len(list) > 0 {
			t.Errorf("RowsOf(%v) = %q", a, list)
		}
		if n := impl.WidthOf(a); n != -1 {
			t.Errorf("WidthOf(%v) = %d", a, n)
		}
	}
}

func TestP110DifferentArraysHaveDifferentTexts(t *testing.T) {
	for _, a := range writtenArrays() {
		if len(a.Data) == 0 {
			continue
		}
		s := formatted(t, a)
		for _, n := range append(numbers(), a.Data[0]+1, a.Data[0]-1) {
			b, ok := impl.WithItem(a, make([]int, len(a.Shape)), n)
			if !ok {
				continue
			}
			if other := formatted(t, b); (other == s) != (n == a.Data[0]) {
				t.Errorf("FormatArray(%v) = %q, FormatArray(%v) = %q", a, s, b, other)
			}
		}
	}
	texts := map[string]impl.Array{}
	for _, a := range writtenArrays() {
		s := formatted(t, a)
		if b, ok := texts[s]; ok && !equal(a, b) {
			t.Errorf("%v and %v have the text %q", a, b, s)
		}
		texts[s] = a
	}
}

func TestP111RowsAreLinesOfNumbers(t *testing.T) {
	check := func(a impl.Array) {
		want := []string{spelled(a.Data)}
		if len(a.Shape) > 1 {
			last := len(a.Shape) - 1
			want = nil
			for i := range product(a.Shape[:last]) {
				want = append(want, spelled(a.Data[i*a.Shape[last]:][:a.Shape[last]]))
			}
		}
		if list := rows(t, a); !slices.Equal(list, want) {
			t.Errorf("RowsOf(%v) = %q, want %q", a, list, want)
		}
	}
	for _, a := range writtenArrays() {
		check(a)
	}
	validShapes(func(shape []int) {
		if product(shape) > 0 || product(shape[:len(shape)-1]) <= 60 {
			check(filled(shape))
		}
	})
}

func TestP111ArraysHaveTheirRows(t *testing.T) {
	for _, x := range []struct {
		a    impl.Array
		want []string
	}{
		{impl.ScalarOf(-5), []string{"_5"}}, {vector(), []string{""}}, {vector(-5), []string{"_5"}}, {vector(1, -2, 3), []string{"1 _2 3"}},
		{plainNames()[1], []string{"0 1 2", "3 0 1"}}, {shaped([]int{3, 1}, 1, 2, 3), []string{"1", "2", "3"}}, {shaped([]int{1, 3}, 1, 2, 3), []string{"1 2 3"}},
		{shaped([]int{3, 0}), []string{"", "", ""}}, {shaped([]int{0, 3}), nil}, {shaped([]int{0, 0}), nil}, {shaped([]int{2, 2, 0}), []string{"", "", "", ""}}, {shaped([]int{2, 0, 2}), nil},
		{shaped([]int{2, 2, 2}, 1, 2, 3, 4, 5, 6, 7, -8), []string{"1 2", "3 4", "5 6", "7 _8"}}, {shaped([]int{60, 60, 0}), make([]string, 3600)}, {shaped([]int{0, 60, 60}), nil}, {shaped([]int{60, 0, 60}), nil},
	} {
		if list := rows(t, x.a); !slices.Equal(list, x.want) {
			t.Errorf("RowsOf(%v) = %q, want %q", x.a, list, x.want)
		}
	}
}

func TestP112RowsOfCellsAreRows(t *testing.T) {
	for _, a := range writtenArrays() {
		if len(a.Shape) < 2 {
			continue
		}
		var want []string
		for n := range a.Shape[0] {
			// 60 60 0 has cells without numbers, whose rows are there.
			want = append(want, rows(t, cell(t, a, n))...)
		}
		if list := rows(t, a); !slices.Equal(list, want) {
			t.Errorf("RowsOf(%v) = %q, want %q", a, list, want)
		}
	}
}

func TestP113WidthsAreTheGreatestLengths(t *testing.T) {
	for _, a := range writtenArrays() {
		width := impl.WidthOf(a)
		if raveled := impl.WidthOf(impl.Ravel(a)); width != raveled {
			t.Errorf("WidthOf(%v) = %d, but raveled %d", a, width, raveled)
		}
		most := 0
		for _, n := range a.Data {
			most = max(most, len(spelled([]int{n})))
			if one := impl.WidthOf(impl.ScalarOf(n)); one > width || one != len(spelled([]int{n})) {
				t.Errorf("WidthOf(%v) = %d, and of %d %d", a, width, n, one)
			}
		}
		if width != most {
			t.Errorf("WidthOf(%v) = %d, want %d", a, width, most)
		}
	}
}

func TestP113ArraysHaveTheirWidths(t *testing.T) {
	for _, x := range []struct {
		a    impl.Array
		want int
	}{
		{impl.ScalarOf(0), 1}, {impl.ScalarOf(9), 1}, {impl.ScalarOf(10), 2}, {impl.ScalarOf(-1), 2}, {impl.ScalarOf(impl.MaxNum), 7}, {impl.ScalarOf(-impl.MaxNum), 8},
		{vector(), 0}, {shaped([]int{60, 60, 0}), 0}, {vector(10, -100, 3), 4}, {vector(-100, 1000), 4}, {vector(-1, 10000, 0), 5}, {vector(0, 0), 1}, {shaped([]int{2, 2}, 1, 2, 3, -99), 3},
	} {
		if n := impl.WidthOf(x.a); n != x.want {
			t.Errorf("WidthOf(%v) = %d, want %d", x.a, n, x.want)
		}
	}
}

func TestWrittenArraysStay(t *testing.T) {
	for _, a := range append(writtenArrays(), invalidArrays()...) {
		b := impl.Array{Shape: roomy(a.Shape), Data: roomy(a.Data)}
		lists := listsOf(b)
		before := wholes(lists)
		text, width := impl.FormatArray(b), impl.WidthOf(b)
		first, second := impl.RowsOf(b), impl.RowsOf(b)
		wantKept(t, lists, before)
		want := slices.Clone(second)
		for i := range first[:cap(first)] {
			first[:cap(first)][i] = "other"
		}
		if !slices.Equal(second, want) || !slices.Equal(impl.RowsOf(b), want) || text != impl.FormatArray(a) || width != impl.WidthOf(a) {
			t.Errorf("the texts of %v are not those of before", a)
		}
	}
}
