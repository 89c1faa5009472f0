package tests

import (
	"slices"
	"strings"
	"testing"

	"loop.example/arraylanguage/impl"
)

// shaped returns an array of a shape.
func shaped(shape []int, n ...int) impl.Array {
	return impl.Array{Shape: shape, Data: n}
}

// plainNames are arrays for all names: two numbers, a matrix, a single number
// and no numbers.
func plainNames() []impl.Array {
	return []impl.Array{vector(7, 8), shaped([]int{2, 3}, 0, 1, 2, 3, 0, 1), impl.ScalarOf(5), vector()}
}

// namings are arrays for all names: of every rank, single numbers, indices,
// empty ones and the greatest numbers.
func namings() [][]impl.Array {
	const most = impl.MaxNum
	return [][]impl.Array{
		plainNames(),
		{impl.ScalarOf(-3), impl.ScalarOf(0), impl.ScalarOf(2), impl.ScalarOf(most)},
		{vector(2, 3), vector(0, 1, -1), vector(5, 5, -5), vector(1)},
		{shaped([]int{2, 0}), shaped([]int{0, 2}), vector(), shaped([]int{0, 0, 2})},
		{mixed([]int{2, 3}), filled([]int{2, 3}), mixed([]int{3, 2}), mixed([]int{2, 3, 4})},
		{filled([]int{60}), shaped([]int{60, 60, 0}), shaped([]int{60, 0, 60}), shaped([]int{1, 1, 1}, 1)},
		{vector(most, -most), vector(-most, most), impl.ScalarOf(-most), shaped([]int{1, 1}, 0)},
		{vector(0, 1, 0), shaped([]int{2, 2}, 0, 2, 1, 0), vector(0, 2), impl.ScalarOf(1)},
	}
}

// otherNamings are lists that are not valid arrays for all names.
func otherNamings() [][]impl.Array {
	one := impl.ScalarOf(1)
	list := [][]impl.Array{nil, {}, {one}, {one, one, one}, {one, one, one, one, one}, make([]impl.Array, impl.Names), make([]impl.Array, 1000)}
	for i, bad := range invalidArrays() {
		vars := plainNames()
		vars[i%impl.Names] = bad
		list = append(list, vars)
	}
	for n := range impl.Names {
		vars := plainNames()
		vars[n] = impl.Array{}
		list = append(list, vars)
	}
	return list
}

// evalLeaves are trees without kids: single numbers, lengths, indices and
// names.
func evalLeaves() []impl.Tree {
	return []impl.Tree{nums(0), nums(3), nums(-1), nums(60), nums(61), nums(2, 3), nums(0, 2), nums(1, 0, 1), nums(1, 1, 1, 1),
		nums(make([]int, impl.MaxTokens)...), named(0), named(1), named(2), named(3)}
}

// evalTrees are valid trees, those of two levels with every sign and all pairs
// of leaves.
func evalTrees() []impl.Tree {
	leaves := evalLeaves()
	list := slices.Clone(leaves)
	for _, kid := range leaves {
		for _, sign := range signsOfOne() {
			list = append(list, ofOne(sign, kid))
		}
		for _, sign := range signsOfReductions() {
			list = append(list, reducing(sign, kid))
		}
		for _, other := range leaves {
			for _, sign := range signsOfTwo() {
				list = append(list, ofTwo(sign, kid, other))
			}
		}
	}
	var some []impl.Tree
	for i := 0; i < len(list); i += 11 {
		some = append(some, list[i])
	}
	list = append(list, treesAbove(some)...)
	for levels := 3; levels <= impl.MaxDepth; levels++ {
		list = append(list, deepTrees(levels)...)
	}
	return list
}

// everyEval calls f for valid trees with arrays for all names.
func everyEval(f func(tree impl.Tree, vars []impl.Array)) {
	trees := evalTrees()
	for _, vars := range namings() {
		for _, tree := range trees {
			f(tree, vars)
		}
	}
}

// evalTree returns EvalTree, and fails unless this is an array and true, or the
// zero value and false.
func evalTree(t *testing.T, tree impl.Tree, vars []impl.Array) (impl.Array, bool) {
	t.Helper()
	a, ok := impl.EvalTree(tree, vars)
	if ok != impl.ValidArray(a) || !ok && !isZero(a) {
		t.Fatalf("EvalTree(%v, %v) = %v, %v", tree, vars, a, ok)
	}
	return a, ok
}

// evalText returns EvalText, and fails unless this is an array and true, or the
// zero value and false.
func evalText(t *testing.T, s string, vars []impl.Array) (impl.Array, bool) {
	t.Helper()
	a, ok := impl.EvalText(s, vars)
	if ok != impl.ValidArray(a) || !ok && !isZero(a) {
		t.Fatalf("EvalText(%q, %v) = %v, %v", s, vars, a, ok)
	}
	return a, ok
}

// wantNoArray fails unless neither a tree nor its text has an array.
func wantNoArray(t *testing.T, tree impl.Tree, vars []impl.Array) {
	t.Helper()
	if a, ok := evalTree(t, tree, vars); ok {
		t.Errorf("EvalTree(%v, %v) = %v", tree, vars, a)
	}
	if list, ok := impl.TreeTokens(tree); ok {
		if a, ok := evalText(t, impl.FormatTokens(list), vars); ok {
			t.Errorf("EvalText of %v with %v = %v", tree, vars, a)
		}
	}
}

// opOf returns the function of two numbers that a sign stands for.
func opOf(sign int) int {
	return []int{impl.OpAdd, impl.OpSubtract, impl.OpTimes, impl.OpMin, impl.OpMax, impl.OpEqual, impl.OpLess, impl.OpRest}[sign]
}

// again returns numbers of an array, again and again, in a shape.
func again(shape []int, a impl.Array) impl.Array {
	b := shaped(slices.Clone(shape), make([]int, product(shape))...)
	for i := range b.Data {
		if len(a.Data) > 0 {
			b.Data[i] = a.Data[i%len(a.Data)]
		}
	}
	return b
}

// picked returns the numbers of a vector at indices, and whether there are all.
func picked(a, places impl.Array) (impl.Array, bool) {
	if len(a.Shape) != 1 {
		return impl.Array{}, false
	}
	b := cloned(places)
	for i, n := range places.Data {
		if n < 0 || n >= len(a.Data) {
			return impl.Array{}, false
		}
		b.Data[i] = a.Data[n]
	}
	return b, true
}

// appliedToOne returns a function of one array, and whether there is a result.
func appliedToOne(sign int, a impl.Array) (impl.Array, bool) {
	switch sign {
	case impl.SignMinus:
		b := cloned(a)
		for i := range b.Data {
			b.Data[i] *= -1
		}
		return b, true
	case impl.SignShape:
		return vector(a.Shape...), true
	case impl.SignComma:
		return vector(a.Data...), true
	}
	if len(a.Shape) > 0 || a.Data[0] < 0 || a.Data[0] > impl.MaxItems {
		return impl.Array{}, false
	}
	b := vector(make([]int, a.Data[0])...)
	for i := range b.Data {
		b.Data[i] = i
	}
	return b, true
}

// appliedToTwo returns a function of two arrays, and whether there is a result.
func appliedToTwo(sign int, a, b impl.Array) (impl.Array, bool) {
	switch sign {
	case impl.SignPick:
		return picked(a, b)
	case impl.SignComma:
		all := vector(slices.Concat(a.Data, b.Data)...)
		return all, max(len(a.Shape), len(b.Shape)) <= 1 && len(all.Data) <= impl.MaxItems
	case impl.SignShape:
		isLength := func(n int) bool { return 0 <= n && n <= impl.MaxItems }
		for _, n := range a.Data {
			if !isLength(n) {
				return impl.Array{}, false
			}
		}
		if len(a.Shape) > 1 || !isShape(a.Data) {
			return impl.Array{}, false
		}
		return again(a.Data, b), true
	}
	if len(a.Shape) == 0 {
		a = again(b.Shape, a)
	} else if len(b.Shape) == 0 {
		b = again(a.Shape, b)
	}
	if !slices.Equal(a.Shape, b.Shape) {
		return impl.Array{}, false
	}
	return operated(opOf(sign), a, b), true
}

// applied returns the function that a tree is of the arrays of its kids, and
// whether there is a result.
func applied(tree impl.Tree, kids []impl.Array) (impl.Array, bool) {
	a := kids[0]
	switch {
	case tree.Kind == impl.TreeOne:
		return appliedToOne(tree.Sign, a)
	case tree.Kind == impl.TreeTwo:
		return appliedToTwo(tree.Sign, a, kids[1])
	case len(a.Shape) == 0:
		return a, true
	}
	last := len(a.Shape) - 1
	if !isShape(a.Shape[:last]) {
		return impl.Array{}, false
	}
	return reduced(opOf(tree.Sign), a, last), true
}

// evaluatedTexts are texts and their arrays for plainNames.
func evaluatedTexts() map[string]impl.Array {
	const most = impl.MaxNum
	one, two, empty := impl.ScalarOf, plainNames()[1], vector()
	return map[string]impl.Array{
		"2*3-1": one(4), "(2*3)-1": one(5), "3-1": one(2), "1-3": one(-2), "3+4": one(7), "_3*4": one(-12), "3&4": one(3), "3|4": one(4), "4=4": one(1), "4=_4": one(0),
		"3<4": one(1), "4<3": one(0), "4<4": one(0), "3%7": one(1), "3%_7": one(2), "0%7": one(7), "_3%7": one(7), "7%3": one(3),
		"1000000+1": one(most), "_1000000-1": one(-most), "1000*_1001": one(-most), "-1000000": one(-most),
		"a": vector(7, 8), "b": two, "c": one(5), "d": empty, "7": one(7), "(_7)": one(-7), "7 _8": vector(7, -8),
		"-c": one(-5), "-a": vector(-7, -8), "-b": shaped([]int{2, 3}, 0, -1, -2, -3, 0, -1), "-d": empty, "--b": two, "-0": one(0),
		"#c": empty, "#a": vector(2), "#b": vector(2, 3), "#d": vector(0), "##b": vector(2), "##c": vector(0), "#2 0#1": vector(2, 0), "#60 60 0#1": vector(60, 60, 0), "#1#9": vector(1),
		"!0": empty, "!1": vector(0), "!c": vector(0, 1, 2, 3, 4), "!60": impl.CountTo(60), "!+/a": impl.CountTo(15), "!(,c)@0": vector(0, 1, 2, 3, 4), "!d#3": vector(0, 1, 2),
		",c": vector(5), ",a": vector(7, 8), ",b": vector(0, 1, 2, 3, 0, 1), ",d": empty, ",60 60 0#1": empty, ",1 1 1#4": vector(4),
		"c,c": vector(5, 5), "c,a": vector(5, 7, 8), "a,c": vector(7, 8, 5), "a,a": vector(7, 8, 7, 8), "d,d": empty, "d,c": vector(5), "a,d": vector(7, 8), "1 2,3": vector(1, 2, 3), "1,2,3": vector(1, 2, 3), "+/(!30),!30": one(870),
		"a@1 0": vector(8, 7), "a@0": one(7), "a@d": empty, "d@d": empty, "a@0 0#0": shaped([]int{0, 0}), "(!9)@b": two, "(,b)@3": one(3), "a@1#1": vector(8), "d@0 3#0": shaped([]int{0, 3}), "(1#4)@0": one(4),
		"2 2#!4": shaped([]int{2, 2}, 0, 1, 2, 3), "1#9": vector(9), "d#a": one(7), "d#d": one(0), "3#d": vector(0, 0, 0), "c#a": vector(7, 8, 7, 8, 7), "(,c)#a": vector(7, 8, 7, 8, 7), "0#a": empty, "2 0#a": shaped([]int{2, 0}),
		"2 2 2#a": shaped([]int{2, 2, 2}, 7, 8, 7, 8, 7, 8, 7, 8), "60 60 0#1": shaped([]int{60, 60, 0}), "(#b)#c": shaped([]int{2, 3}, 5, 5, 5, 5, 5, 5), "3#b": vector(0, 1, 2), "3 2#b": shaped([]int{3, 2}, 0, 1, 2, 3, 0, 1), "(#c)#9": one(9),
		"a=8": vector(0, 1), "8=a": vector(0, 1), "c+b": shaped([]int{2, 3}, 5, 6, 7, 8, 5, 6), "b-c": shaped([]int{2, 3}, -5, -4, -3, -2, -5, -4), "c-a": vector(-2, -3), "a-c": vector(2, 3), "a-a": vector(0, 0), "a-8 7": vector(-1, 1), "b*b": shaped([]int{2, 3}, 0, 1, 4, 9, 0, 1),
		"d+c": empty, "c+d": empty, "d+d": empty, "c+2 0#1": shaped([]int{2, 0}), "c-c": one(0), "(1#1)+1#2": vector(3), "3%!5": vector(0, 1, 2, 0, 1), "a%20": vector(6, 4), "20%a": vector(7, 8), "b<1": shaped([]int{2, 3}, 1, 0, 0, 0, 1, 0), "1<b": shaped([]int{2, 3}, 0, 0, 1, 1, 0, 0),
		"+/!5": one(10), "-/1 2 3": one(2), "-/1 2": one(-1), "*/2 3 4": one(24), "&/b": vector(0, 0), "|/b": vector(2, 3), "=/2 1 1": one(0), "</1 2 3": one(0), "%/3 5 9": one(1),
		"+/b": vector(3, 4), "-/b": vector(1, 4), "+/+/b": one(7), "+/+/+/b": one(7), "+/c": one(5), "-/c": one(5), "</c": one(5), "=/_7": one(-7), "+/1#9": one(9), "-/2 1#3 4": vector(3, 4), "-/1 2#3 4": vector(-1), "+/2 2 2#!8": shaped([]int{2, 2}, 1, 5, 9, 13),
		"+/d": one(0), "-/d": one(0), "*/d": one(1), "&/d": one(most), "|/d": one(-most), "=/d": one(1), "</d": one(0), "%/d": one(0), "*/2 0#1": vector(1, 1), "|/0 2#1": empty, "+/60 0 60#1": shaped([]int{60, 0}),
	}
}

// failingTexts are texts of trees that have no array for plainNames.
func failingTexts() []string {
	return []string{
		"!_1", "!61", "!1000000", "!a", "!d", "!,c", "!1#5", "!b", "!1 1#5", "!-c",
		"1 2+1 2 3", "a+b", "b+a", "a+d", "d+a", "a+1#1", "(1#1)+a", "b+,b", "b+3 2#b", "(2 0#1)+0 2#1", "(2 0#1)+d", "(1 2#1)+a", "c+a+b",
		"a@2", "a@_1", "a@0 2", "a@_1 0", "b@0", "c@0", "c@d", "b@d", "d@0", "d@_1", "d@a", "(1 1#0)@0", "a@a", "a@b", "a@c",
		"b#1", "4 4 4#1", "61#1", "_1#1", "1 1 1 1#1", "60 2#1", "2 31#1", "(1 1#1)#1", "(2 0#1)#1", "0 61#1", "0 _1#1", "_1 _1#1", "(!4)#1", "(-c)#1", "1 61 0#1", "b#d", "(0 0#1)#c",
		"b,1", "1,b", "b,b", "(!31),!30", "(!60),1", "1,!60", "(1 1#1),1", "d,0 0#1", "(0 0#1),d", "(0 0#1),c",
		"+/60 60 0#1", "+/!61", "-b@0", "#a+b", ",b,1", "(a+b)-1", "1-(a+b)", "d#a+b", "(a+b)#1",
	}
}

func TestP102TreesAreEvaluatedFromTheirParts(t *testing.T) {
	everyEval(func(tree impl.Tree, vars []impl.Array) {
		a, ok := evalTree(t, tree, vars)
		var kids []impl.Array
		for _, kid := range tree.Kids {
			b, fine := evalTree(t, kid, vars)
			if !fine && ok {
				t.Errorf("EvalTree(%v, %v) = %v, but not of %v", tree, vars, a, kid)
			}
			if !fine {
				return
			}
			kids = append(kids, b)
		}
		if len(kids) == 0 {
			return
		}
		want, fine := applied(tree, kids)
		if ok != fine || ok && !equal(a, want) {
			t.Errorf("EvalTree(%v, %v) = %v, %v, want %v, %v", tree, vars, a, ok, want, fine)
		}
	})
}

func TestP102FunctionsHaveTheirArrays(t *testing.T) {
	for s, want := range evaluatedTexts() {
		a, ok := evalTree(t, parsed(t, tokens(t, s)), plainNames())
		if !ok || !equal(a, want) {
			t.Errorf("EvalTree of %q = %v, %v, want %v", s, a, ok, want)
		}
	}
	for _, s := range failingTexts() {
		wantNoArray(t, parsed(t, tokens(t, s)), plainNames())
	}
}

// wantNoValue fails unless a tree that is not valid has nothing, neither alone
// nor as a part of others. It does not print the tree, which may have itself.
func wantNoValue(t *testing.T, why string, bad impl.Tree) {
	t.Helper()
	shapes := shapesOf(plainNames())
	for i, tree := range []impl.Tree{bad, ofOne(1, bad), ofTwo(0, bad, nums(1)), ofTwo(0, nums(1), bad), reducing(0, bad), ofOne(8, ofTwo(2, bad, named(0))), ofTwo(8, nums(2), bad)} {
		if a, ok := impl.EvalTree(tree, plainNames()); ok || !isZero(a) {
			t.Errorf("%s: EvalTree of tree %d = %v, %v", why, i, a, ok)
		}
		if list := impl.UsedNames(tree); len(list) > 0 {
			t.Errorf("%s: UsedNames of tree %d = %v", why, i, list)
		}
		if shape, ok := impl.InferShape(tree, shapes); ok || len(shape) > 0 {
			t.Errorf("%s: InferShape of tree %d = %v, %v", why, i, shape, ok)
		}
		if n := impl.ItemCount(tree, shapes); n != -1 {
			t.Errorf("%s: ItemCount of tree %d = %d", why, i, n)
		}
	}
}

func TestP102OtherTreesHaveNothing(t *testing.T) {
	for _, tree := range []impl.Tree{nums(5), nums(1, 2), named(0), named(3), ofOne(1, named(0)), ofOne(9, nums(3)), ofTwo(0, nums(1), named(2)), ofTwo(11, ofOne(1, named(0)), nums(1)), reducing(7, ofTwo(3, named(2), nums(1)))} {
		otherTrees(tree, func(why string, bad impl.Tree) { wantNoValue(t, why, bad) })
	}
	for value := -3; value <= 20; value++ {
		for _, tree := range []impl.Tree{ofOne(value, named(2)), ofTwo(value, named(2), nums(1)), reducing(value, named(2))} {
			if !impl.ValidTree(tree) {
				wantNoValue(t, "a sign", tree)
			}
		}
	}
	for levels := impl.MaxDepth + 1; levels < 20; levels++ {
		for _, tree := range deepTrees(levels) {
			wantNoValue(t, "many levels", tree)
		}
	}
	for kind := range 5 {
		kids := make([]impl.Tree, 2)
		for i := range kids {
			kids[i] = impl.Tree{Kind: kind, Kids: kids, Sign: impl.SignMinus}
		}
		wantNoValue(t, "itself", kids[0])
	}
	wantNoValue(t, "the zero value", impl.Tree{})
}

func TestP103OtherNamesDoNotMatter(t *testing.T) {
	others := []impl.Array{impl.ScalarOf(9), vector(), mixed([]int{3, 4, 5}), vector(1, 2)}
	calls := 0
	everyEval(func(tree impl.Tree, vars []impl.Array) {
		a, ok := evalTree(t, tree, vars)
		used := impl.UsedNames(tree)
		changed := slices.Clone(vars)
		for n := range changed {
			if !slices.Contains(used, n) {
				calls++
				changed[n] = others[calls%len(others)]
			}
		}
		if b, fine := evalTree(t, tree, changed); ok != fine || !equal(a, b) {
			t.Errorf("EvalTree(%v, %v) = %v, %v, but with %v %v, %v", tree, vars, a, ok, changed, b, fine)
		}
	})
}

func TestP103AllNamesNeedArrays(t *testing.T) {
	for _, tree := range []impl.Tree{nums(1), nums(1, 2), named(0), named(1), named(2), named(3), ofOne(1, nums(5)), ofTwo(0, nums(1), named(2)), reducing(0, nums(1, 2))} {
		if _, ok := evalTree(t, tree, plainNames()); !ok {
			t.Errorf("EvalTree(%v) fails", tree)
		}
		for _, vars := range otherNamings() {
			wantNoArray(t, tree, vars)
		}
	}
}

func TestP104NamesHaveTheirArrays(t *testing.T) {
	list := append(mixedSamples(), samples()...)
	for i, a := range list {
		for n := range impl.Names {
			vars := plainNames()
			vars[n] = a
			vars[(n+1)%impl.Names] = list[(i+1)%len(list)]
			if b, ok := evalTree(t, named(n), vars); !ok || !equal(b, a) {
				t.Errorf("EvalTree of the name %d with %v = %v, %v", n, vars, b, ok)
			}
		}
	}
	for n, s := range []string{"a", "b", "c", "d"} {
		if b, ok := evalText(t, s, plainNames()); !ok || !equal(b, plainNames()[n]) {
			t.Errorf("EvalText(%q) = %v, %v", s, b, ok)
		}
	}
}

func TestP104NumbersHaveTheirArrays(t *testing.T) {
	for _, n := range numbers() {
		if a, ok := evalTree(t, nums(n), plainNames()); !ok || !equal(a, impl.ScalarOf(n)) {
			t.Errorf("EvalTree of %d = %v, %v", n, a, ok)
		}
		for count := 2; count <= impl.MaxTokens; count++ {
			list := make([]int, count)
			list[0], list[count-1] = -n, n
			if a, ok := evalTree(t, nums(list...), plainNames()); !ok || !equal(a, vector(list...)) {
				t.Errorf("EvalTree of %v = %v, %v", list, a, ok)
			}
		}
	}
}

func TestP105TextsAreEvaluatedAsTrees(t *testing.T) {
	everyEval(func(tree impl.Tree, vars []impl.Array) {
		list, fine := impl.TreeTokens(tree)
		s := impl.FormatTokens(list)
		if !fine || len(s) > impl.MaxText {
			return
		}
		a, ok := evalTree(t, tree, vars)
		if b, fine := evalText(t, s, vars); ok != fine || !equal(a, b) {
			t.Errorf("EvalTree(%v, %v) = %v, %v, but EvalText(%q) = %v, %v", tree, vars, a, ok, s, b, fine)
		}
	})
}

// everyText calls f for texts: with trees and arrays, and without.
func everyText(f func(s string)) {
	for s := range evaluatedTexts() {
		f(s)
	}
	for _, s := range slices.Concat(failingTexts(), parsedTexts(), otherParsedTexts(), longTexts()) {
		f(s)
	}
	everyShortText(f)
}

func TestP106TextsGoThroughTokensAndTrees(t *testing.T) {
	everyText(func(s string) {
		for _, vars := range [][]impl.Array{plainNames(), namings()[1], nil, {{}, {}, {}, {}}} {
			// Without tokens there is nothing to parse, and so on.
			list, fine := impl.TokensOf(s)
			var tree impl.Tree
			if fine {
				tree, fine = impl.ParseTokens(list)
			}
			var want impl.Array
			if fine {
				want, fine = evalTree(t, tree, vars)
			}
			if a, ok := evalText(t, s, vars); ok != fine || !equal(a, want) {
				t.Errorf("EvalText(%q, %v) = %v, %v, want %v, %v", s, vars, a, ok, want, fine)
			}
		}
	})
}

func TestP106TextsHaveTheirArrays(t *testing.T) {
	for s, want := range evaluatedTexts() {
		for _, wide := range []string{s, " " + s + " ", "(" + s + ")", "((" + s + "))"} {
			if a, ok := evalText(t, wide, plainNames()); !ok || !equal(a, want) {
				t.Errorf("EvalText(%q) = %v, %v, want %v", wide, a, ok, want)
			}
		}
	}
	for _, s := range []string{"", " ", "_", "01", "e", "1000001", "a:1", "1+", "(a", "a)", "a b", "a 1", "+", "/a", "1/2", "()", "+a", "*/", "1!2", "--------a", strings.Repeat(" ", 200) + "a", strings.Repeat("1 ", 41), strings.Repeat("(", 20) + "a" + strings.Repeat(")", 20)} {
		if a, ok := evalText(t, s, plainNames()); ok {
			t.Errorf("EvalText(%q) = %v", s, a)
		}
	}
}

func TestP107OppositesTwiceAreNothing(t *testing.T) {
	check := func(s string, vars []impl.Array) {
		list, fine := impl.TokensOf(s)
		tree, whole := impl.ParseTokens(list)
		a, ok := evalText(t, s, vars)
		twice := "--(" + s + ")"
		b, okTwice := evalText(t, twice, vars)
		if !fine || !whole || len(list) > impl.MaxTokens-4 || len(twice) > impl.MaxText || levelsOf(tree) > impl.MaxDepth-2 {
			// There is no text, or no room for two functions and parentheses.
			ok, a = false, impl.Array{}
		}
		if ok != okTwice || !equal(a, b) {
			t.Errorf("EvalText(%q, %v) = %v, %v, but of %q %v, %v", s, vars, a, ok, twice, b, okTwice)
		}
	}
	everyText(func(s string) { check(s, plainNames()) })
	for _, vars := range namings() {
		for _, s := range parsedTexts() {
			check(s, vars)
		}
	}
}

// namesIn marks the names of a valid tree.
func namesIn(tree impl.Tree, found *[impl.Names]bool) {
	if tree.Kind == impl.TreeName {
		found[tree.Name] = true
	}
	for _, kid := range tree.Kids {
		namesIn(kid, found)
	}
}

func TestP108UsedNamesAreToldOnce(t *testing.T) {
	trees := slices.Concat(evalTrees(), validTrees())
	for _, tree := range trees {
		list := impl.UsedNames(tree)
		if !ascends(list) {
			t.Errorf("UsedNames(%v) = %v", tree, list)
		}
		var found [impl.Names]bool
		namesIn(tree, &found)
		var want []int
		for n, is := range found {
			if is {
				want = append(want, n)
			}
		}
		if !slices.Equal(list, want) {
			t.Errorf("UsedNames(%v) = %v, want %v", tree, list, want)
		}
	}
	for i, tree := range trees {
		other := trees[(i*7+3)%len(trees)]
		if levelsOf(tree) == impl.MaxDepth || levelsOf(other) == impl.MaxDepth {
			continue
		}
		want := slices.Concat(impl.UsedNames(tree), impl.UsedNames(other))
		slices.Sort(want)
		want = slices.Compact(want)
		if list := impl.UsedNames(ofTwo(0, tree, other)); !slices.Equal(list, want) {
			t.Errorf("UsedNames of %v and %v = %v, want %v", tree, other, list, want)
		}
	}
}

func TestP108NamesOfTextsAreUsed(t *testing.T) {
	for s, want := range map[string][]int{
		"a": {0}, "d": {3}, "a+a": {0}, "b+a": {0, 1}, "d,c,b,a": {0, 1, 2, 3}, "(d@a)-(a#d)": {0, 3}, "+/c-c": {2}, "1+2": nil, "-d": {3}, "!5": nil, "1 2#(c,1),b": {1, 2}, "((a+b)-a)+b": {0, 1},
	} {
		if list := impl.UsedNames(parsed(t, tokens(t, s))); !slices.Equal(list, want) {
			t.Errorf("UsedNames of %q = %v", s, list)
		}
	}
}

func TestP168NumbersAreVectors(t *testing.T) {
	for first := range numbers() {
		for count := 2; count <= impl.MaxTokens+1; count++ {
			var list []int
			for i := range count {
				list = append(list, numbers()[(first+i*i)%len(numbers())])
			}
			text := spelled(list)
			for _, s := range []string{text, strings.ReplaceAll(text, " ", "   "), "  " + strings.ReplaceAll(text, " ", "  ") + " ", "(" + text + ")"} {
				a, ok := evalText(t, s, plainNames())
				fits := len(s) <= impl.MaxText && count <= impl.MaxTokens
				if strings.HasPrefix(s, "(") {
					fits = fits && count <= impl.MaxTokens-2
				}
				if ok != fits || ok && !equal(a, impl.VectorOf(list)) {
					t.Errorf("EvalText(%q) = %v, %v", s, a, ok)
				}
			}
		}
	}
}

func TestP170NumbersUseNoNames(t *testing.T) {
	for count := 1; count <= impl.MaxTokens; count++ {
		for _, n := range numbers() {
			tree := nums(slices.Repeat([]int{n}, count)...)
			if list := impl.UsedNames(tree); !impl.ValidTree(tree) || len(list) > 0 {
				t.Errorf("UsedNames(%v) = %v", tree, list)
			}
		}
	}
	for n := range impl.Names {
		if list := impl.UsedNames(named(n)); !slices.Equal(list, []int{n}) {
			t.Errorf("UsedNames of the name %d = %v", n, list)
		}
	}
	for _, n := range append(beyond(), -1, impl.Names) {
		if list := impl.UsedNames(named(n)); len(list) > 0 {
			t.Errorf("UsedNames of the name %d = %v", n, list)
		}
	}
}

// listsOf returns the shapes and the numbers of arrays.
func listsOf(arrays ...impl.Array) [][]int {
	var lists [][]int
	for _, a := range arrays {
		lists = append(lists, a.Shape, a.Data)
	}
	return lists
}

func TestEvaluatedArraysAreFresh(t *testing.T) {
	for _, vars := range namings() {
		for i, a := range vars {
			vars[i] = impl.Array{Shape: roomy(a.Shape), Data: roomy(a.Data)}
		}
		for _, tree := range slices.Concat(evalLeaves(), treesAbove(evalLeaves())) {
			tree = spareTree(tree)
			given := slices.Concat(listsOf(vars...), numsBelow(tree))
			before := wholes(given)
			want := clonedTree(tree)
			first, _ := impl.EvalTree(tree, vars)
			second, _ := impl.EvalTree(tree, vars)
			wantKept(t, given, before)
			if !equalTree(tree, want) || !equal(first, second) {
				t.Errorf("EvalTree(%v, %v) = %v, and then %v", want, vars, first, second)
			}
			results := listsOf(first, second)
			wantApart(t, "EvalTree", results...)
			for _, list := range results {
				scribble(list)
			}
			wantKept(t, given, before)
		}
	}
}

func TestUsedNamesAreFresh(t *testing.T) {
	tree := ofTwo(0, named(2), ofTwo(1, named(0), named(2)))
	first, second := impl.UsedNames(tree), impl.UsedNames(tree)
	wantApart(t, "UsedNames", first, second)
	scribble(first)
	if !slices.Equal(impl.UsedNames(tree), []int{0, 2}) || tree.Kids[0].Name != 2 {
		t.Errorf("UsedNames became %v", impl.UsedNames(tree))
	}
}
