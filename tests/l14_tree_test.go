package tests

import (
	"math"
	"slices"
	"testing"

	"loop.example/arraylanguage/impl"
)

// nums returns the tree of numbers.
func nums(n ...int) impl.Tree {
	return impl.Tree{Kind: impl.TreeNums, Nums: n}
}

// named returns the tree of a name.
func named(n int) impl.Tree {
	return impl.Tree{Kind: impl.TreeName, Name: n}
}

// ofOne returns the tree of a function of one array.
func ofOne(sign int, kid impl.Tree) impl.Tree {
	return impl.Tree{Kind: impl.TreeOne, Sign: sign, Kids: []impl.Tree{kid}}
}

// ofTwo returns the tree of a function of two arrays.
func ofTwo(sign int, first, second impl.Tree) impl.Tree {
	return impl.Tree{Kind: impl.TreeTwo, Sign: sign, Kids: []impl.Tree{first, second}}
}

// reducing returns the tree of a reduction.
func reducing(sign int, kid impl.Tree) impl.Tree {
	return impl.Tree{Kind: impl.TreeReduce, Sign: sign, Kids: []impl.Tree{kid}}
}

// equalTree reports whether two trees are the same; nil and empty lists are.
func equalTree(a, b impl.Tree) bool {
	return a.Kind == b.Kind && a.Sign == b.Sign && a.Name == b.Name && slices.Equal(a.Nums, b.Nums) && slices.EqualFunc(a.Kids, b.Kids, equalTree)
}

// clonedTree returns a tree in memory of its own.
func clonedTree(t impl.Tree) impl.Tree {
	t.Nums = slices.Clone(t.Nums)
	t.Kids = slices.Clone(t.Kids)
	for i, kid := range t.Kids {
		t.Kids[i] = clonedTree(kid)
	}
	return t
}

// parsed returns ParseTokens of a call that has to succeed.
func parsed(t *testing.T, list []impl.Token) impl.Tree {
	t.Helper()
	tree, ok := impl.ParseTokens(list)
	if !ok || !impl.ValidTree(tree) {
		t.Fatalf("ParseTokens(%v) = %v, %v", list, tree, ok)
	}
	return tree
}

// written returns TreeTokens of a call that has to succeed.
func written(t *testing.T, tree impl.Tree) []impl.Token {
	t.Helper()
	list, ok := impl.TreeTokens(tree)
	if !ok || !impl.ValidTokens(list) || len(list) == 0 || !impl.ValidTree(tree) {
		t.Fatalf("TreeTokens(%v) = %v, %v", tree, list, ok)
	}
	return list
}

// wantNoTree fails unless ParseTokens returns the zero value and false.
func wantNoTree(t *testing.T, list []impl.Token) {
	t.Helper()
	if tree, ok := impl.ParseTokens(list); ok || !equalTree(tree, impl.Tree{}) {
		t.Errorf("ParseTokens(%v) = %v, %v", list, tree, ok)
	}
}

// wantNotWritten fails unless TreeTokens returns nothing and false.
func wantNotWritten(t *testing.T, tree impl.Tree) {
	t.Helper()
	if list, ok := impl.TreeTokens(tree); ok || len(list) > 0 {
		t.Errorf("TreeTokens(%v) = %v, %v", tree, list, ok)
	}
}

// wantNotValid fails unless a tree is not valid, alone and as a part of others,
// and has no tokens. It does not print the tree, which may have itself.
func wantNotValid(t *testing.T, why string, bad impl.Tree) {
	t.Helper()
	for i, tree := range []impl.Tree{bad, ofOne(1, bad), ofTwo(0, bad, nums(1)), ofTwo(0, nums(1), bad), reducing(0, bad), ofOne(8, ofTwo(2, bad, named(0)))} {
		if impl.ValidTree(tree) {
			t.Errorf("%s: tree %d is valid", why, i)
		}
		if list, ok := impl.TreeTokens(tree); ok || len(list) > 0 {
			t.Errorf("%s: tree %d has the tokens %v", why, i, list)
		}
	}
}

// enclosed returns tokens in parentheses.
func enclosed(list []impl.Token) []impl.Token {
	return slices.Concat([]impl.Token{sign(impl.SignOpen)}, list, []impl.Token{sign(impl.SignClose)})
}

// signsOfOne, signsOfTwo and signsOfReductions are the signs of trees.
func signsOfOne() []int        { return []int{1, 8, 9, 10} }
func signsOfTwo() []int        { return []int{0, 1, 2, 3, 4, 5, 6, 7, 8, 10, 11} }
func signsOfReductions() []int { return []int{0, 1, 2, 3, 4, 5, 6, 7} }

// treesAbove returns trees with each sign, each with some of the kids.
func treesAbove(kids []impl.Tree) []impl.Tree {
	var list []impl.Tree
	for i, kid := range kids {
		for _, sign := range signsOfOne() {
			list = append(list, ofOne(sign, kid))
		}
		for _, sign := range signsOfReductions() {
			list = append(list, reducing(sign, kid))
		}
		for j, sign := range signsOfTwo() {
			list = append(list, ofTwo(sign, kid, kids[(i*5+j)%len(kids)]), ofTwo(sign, kids[(i*7+j+1)%len(kids)], kid))
		}
	}
	return list
}

// deepTrees are trees of so many levels, each growing at one side.
func deepTrees(levels int) []impl.Tree {
	grow := []func(t impl.Tree) impl.Tree{
		func(t impl.Tree) impl.Tree { return ofOne(impl.SignMinus, t) },
		func(t impl.Tree) impl.Tree { return reducing(impl.SignRest, t) },
		func(t impl.Tree) impl.Tree { return ofTwo(2, t, named(1)) },
		func(t impl.Tree) impl.Tree { return ofTwo(3, nums(4, 5), t) },
		func(t impl.Tree) impl.Tree { return ofTwo(impl.SignComma, t, nums(6)) },
	}
	var list []impl.Tree
	for first := range grow {
		for _, step := range []int{0, 1, 2} {
			tree := named(3)
			for level := range levels - 1 {
				tree = grow[(first+step*level)%len(grow)](tree)
			}
			list = append(list, tree)
		}
	}
	return list
}

// validTrees are valid trees that have at most MaxTokens tokens.
func validTrees() []impl.Tree {
	leaves := []impl.Tree{nums(5), nums(-1, 0), nums(numbers()[:5]...), named(0), named(3)}
	above := treesAbove(leaves)
	list := slices.Concat(leaves, above, treesAbove(above))
	list = append(list, nums(slices.Repeat([]int{-impl.MaxNum}, 40)...), named(1), named(2),
		ofTwo(0, nums(make([]int, 20)...), nums(make([]int, 19)...)), reducing(2, nums(make([]int, 38)...)), ofOne(9, nums(make([]int, 39)...)))
	for levels := 3; levels <= impl.MaxDepth; levels++ {
		for _, tree := range deepTrees(levels) {
			if len(tokensBelow(tree)) <= impl.MaxTokens {
				list = append(list, tree)
			}
		}
	}
	return list
}

// tokensBelow returns the tokens of a valid tree, which may be too many.
func tokensBelow(t impl.Tree) []impl.Token {
	var list []impl.Token
	switch t.Kind {
	case impl.TreeNums:
		for _, n := range t.Nums {
			list = append(list, number(n))
		}
	case impl.TreeName:
		list = append(list, name('a'+byte(t.Name)))
	case impl.TreeOne:
		list = append(append(list, sign(t.Sign)), tokensBelow(t.Kids[0])...)
	case impl.TreeReduce:
		list = append(append(list, sign(t.Sign), sign(impl.SignSlash)), tokensBelow(t.Kids[0])...)
	default:
		list = tokensBelow(t.Kids[0])
		if t.Kids[0].Kind > impl.TreeName {
			list = enclosed(list)
		}
		list = append(append(list, sign(t.Sign)), tokensBelow(t.Kids[1])...)
	}
	return list
}

// leftReader reads tokens from left to right: an expression is a sign and an
// expression, or an operand alone or with a sign and an expression behind it.
type leftReader struct {
	list   []impl.Token
	failed bool
}

// take takes and returns the first token.
func (r *leftReader) take() impl.Token {
	if len(r.list) == 0 {
		r.failed = true
		return impl.Token{Kind: -1}
	}
	one := r.list[0]
	r.list = r.list[1:]
	return one
}

// begins reports whether a sign is first.
func (r *leftReader) begins(value int) bool {
	return len(r.list) > 0 && r.list[0] == sign(value)
}

// want fails unless a sign is one of some.
func (r *leftReader) want(one impl.Token, some []int) int {
	if one.Kind != impl.TokSign || !slices.Contains(some, one.Value) {
		r.failed = true
	}
	return one.Value
}

func (r *leftReader) operand(first impl.Token) impl.Tree {
	switch {
	case first.Kind == impl.TokName:
		return named(first.Value)
	case first.Kind == impl.TokNum:
		tree := nums(first.Value)
		for len(r.list) > 0 && r.list[0].Kind == impl.TokNum {
			tree.Nums = append(tree.Nums, r.take().Value)
		}
		return tree
	}
	tree := r.expression()
	r.want(r.take(), []int{impl.SignClose})
	return tree
}

func (r *leftReader) expression() impl.Tree {
	if r.failed {
		return impl.Tree{}
	}
	first := r.take()
	if first.Kind == impl.TokSign && first.Value != impl.SignOpen {
		if r.begins(impl.SignSlash) {
			r.take()
			return reducing(r.want(first, signsOfReductions()), r.expression())
		}
		return ofOne(r.want(first, signsOfOne()), r.expression())
	}
	tree := r.operand(first)
	if len(r.list) == 0 || r.begins(impl.SignClose) {
		return tree
	}
	return ofTwo(r.want(r.take(), signsOfTwo()), tree, r.expression())
}

// levelsOf returns how many levels a tree has.
func levelsOf(t impl.Tree) int {
	most := 0
	for _, kid := range t.Kids {
		most = max(most, levelsOf(kid))
	}
	return most + 1
}

// readFromLeft returns the tree of valid tokens, and whether there is one.
func readFromLeft(list []impl.Token) (impl.Tree, bool) {
	r := leftReader{list: list}
	tree := r.expression()
	return tree, !r.failed && len(r.list) == 0 && levelsOf(tree) <= impl.MaxDepth
}

// everyShortList calls f for each list of at most five of some tokens. The
// lists are changed behind the call.
func everyShortList(f func(list []impl.Token)) {
	some := []impl.Token{number(2), name('b'), sign(1), sign(2), sign(8), sign(9), sign(10), sign(11), sign(12), sign(13), sign(14)}
	var longer func(list []impl.Token)
	longer = func(list []impl.Token) {
		f(list)
		if len(list) == 5 {
			return
		}
		for _, one := range some {
			longer(append(list, one))
		}
	}
	longer(make([]impl.Token, 0, 5))
}

// parsedTexts are texts of which there is a tree.
func parsedTexts() []string {
	return []string{
		"a", "7", "1 _2 3", "((a))", "2*3-1", "(2*3)-1", "2*(3-1)", "+/a", "+/-a", "-+/a", "--4", "- - 4", "1--4", "1+ +/a", "+/+/a", "1 2#b,3", "(+/a)@c",
		"-(1 2)", "(1)+(2)", "((1)+((2)))", "(a@b)@(c@d)", "2 3#!6", ",#a", "#,a", "a,b,c,d", "(a,b),c", "(-a)-(-b)", "-a-b", "(-a)-b", "%/1 2 3", "a&b|c=d<a%b",
		"(((((((((((((((((((a)))))))))))))))))))", "-------a", "(-------a)", "-(-(-(-(-(-(-a))))))", "((((((a+1)+1)+1)+1)+1)+1)+1", "a+a+a+a+a+a+a+1",
		"1 2 3 4 5 6 7 8 9 10 11 12 13 14 15 16 17 18 19 20 21 22 23 24 25 26 27 28 29 30 31 32 33 34 35 36 37 38 39 40",
	}
}

// otherParsedTexts are texts of which there are tokens, but no tree.
func otherParsedTexts() []string {
	return []string{
		"", " ", "1+", "(a", "a)", "a b", "+", "/a", "1/2", "()", "+a", "(", ")", ")(", ")a(", "(a))", "((a)", "a()", "()a", "()+a", "a+()", "(a)(b)", "(a)b", "a(b)", "1 a", "a 1", "1 2 a", "1(2)", "(1)2",
		"1+/a", "a+/b", "(a)+/b", "1-/a", "+//a", "//a", "+/", "a+/", "/", "1 2/3", "#/a", "!/a", ",/a", "@/a", "(/a", ")/a", "(/a)", "(+)/a", "+/(", "*a", "&a", "|a", "=a", "<a", "%a", "@a", "1+*a", "(@a)",
		"1!2", "a!b", "1+", "1+-", "-", "(-)", "(1+)", "(+/)", "1 2 +", "a-)", "a-(", "(a-)b", "a)-b", "a-(b", "a-b)", "(a-b", "1,,", "1#", "--------a", "(-(-(-(-(-(-(-(-a))))))))", "(((((((a+1)+1)+1)+1)+1)+1)+1)+1", "a+a+a+a+a+a+a+a+1", "+/+/+/+/+/+/+/+/a",
	}
}

// everyParsed calls f for tokens of which there is a tree.
func everyParsed(f func(list []impl.Token)) {
	everyShortList(func(list []impl.Token) {
		if _, ok := readFromLeft(list); ok {
			f(slices.Clone(list))
		}
	})
	for _, s := range parsedTexts() {
		list, _ := impl.TokensOf(s)
		f(list)
	}
}

func TestP97TreesHaveValidParts(t *testing.T) {
	var check func(tree impl.Tree)
	check = func(tree impl.Tree) {
		if !impl.ValidTree(tree) {
			t.Errorf("%v is not valid", tree)
		}
		for _, kid := range tree.Kids {
			check(kid)
		}
	}
	for _, tree := range validTrees() {
		check(tree)
	}
	for _, tree := range deepTrees(impl.MaxDepth) {
		check(tree)
	}
}

func TestP97TreesHaveTheirSigns(t *testing.T) {
	for value := -3; value <= 20; value++ {
		for _, x := range []struct {
			tree impl.Tree
			some []int
		}{{ofOne(value, named(0)), signsOfOne()}, {ofTwo(value, named(0), nums(1)), signsOfTwo()}, {reducing(value, named(0)), signsOfReductions()}} {
			if valid := slices.Contains(x.some, value); impl.ValidTree(x.tree) != valid {
				t.Errorf("ValidTree(%v) = %v", x.tree, !valid)
			} else if !valid {
				wantNotValid(t, "a sign", x.tree)
			}
		}
	}
	given := []int{impl.SignMinus, impl.SignRest, impl.SignShape, impl.SignCount, impl.SignComma, impl.SignPick, impl.SignSlash, impl.SignOpen, impl.SignClose}
	kinds := []int{impl.TreeNums, impl.TreeName, impl.TreeOne, impl.TreeTwo, impl.TreeReduce}
	if !slices.Equal(given, []int{1, 7, 8, 9, 10, 11, 12, 13, 14}) || !slices.Equal(kinds, []int{0, 1, 2, 3, 4}) || impl.MaxDepth != 8 {
		t.Errorf("a constant is not that of the document: %v, %v", given, kinds)
	}
}

// otherTrees calls f for trees that a valid one is with a part more, less, or
// of another kind.
func otherTrees(tree impl.Tree, f func(why string, bad impl.Tree)) {
	with := func(why string, change func(bad *impl.Tree)) {
		bad := clonedTree(tree)
		change(&bad)
		f(why, bad)
	}
	for _, kind := range []int{-1, 5, 6, math.MaxInt, math.MinInt} {
		with("a kind", func(bad *impl.Tree) { bad.Kind = kind })
	}
	with("a kid more", func(bad *impl.Tree) { bad.Kids = append(bad.Kids, nums(1)) })
	with("many kids", func(bad *impl.Tree) { bad.Kids = append(bad.Kids, make([]impl.Tree, 1000)...) })
	if len(tree.Kids) > 0 {
		with("a kid less", func(bad *impl.Tree) { bad.Kids = bad.Kids[1:] })
		with("no kids", func(bad *impl.Tree) { bad.Kids = nil })
		with("a zero kid", func(bad *impl.Tree) { bad.Kids[0] = impl.Tree{} })
		with("a zero kid at the end", func(bad *impl.Tree) { bad.Kids[len(bad.Kids)-1] = impl.Tree{} })
	}
	for _, n := range []int{-1, 1, 4, math.MaxInt, math.MinInt} {
		if tree.Kind == impl.TreeNums || tree.Kind == impl.TreeName {
			with("a sign", func(bad *impl.Tree) { bad.Sign = n })
		} else {
			with("a sign", func(bad *impl.Tree) { bad.Sign = 15 + n&0xff })
		}
		if tree.Kind != impl.TreeName {
			with("a name", func(bad *impl.Tree) { bad.Name = n })
		} else if n != 1 {
			with("another name", func(bad *impl.Tree) { bad.Name = n })
		}
		if tree.Kind != impl.TreeNums {
			with("a number", func(bad *impl.Tree) { bad.Nums = []int{n} })
			with("a number 0", func(bad *impl.Tree) { bad.Nums = []int{0} })
		}
	}
	if tree.Kind == impl.TreeNums {
		with("no numbers", func(bad *impl.Tree) { bad.Nums = nil })
		with("an empty list", func(bad *impl.Tree) { bad.Nums = []int{} })
		with("many numbers", func(bad *impl.Tree) { bad.Nums = make([]int, impl.MaxTokens+1) })
		for _, n := range beyond() {
			with("a number beyond", func(bad *impl.Tree) { bad.Nums[len(bad.Nums)-1] = n })
			with("a number more", func(bad *impl.Tree) { bad.Nums = append([]int{n}, bad.Nums...) })
		}
	}
}

func TestP97OtherTreesAreNotValid(t *testing.T) {
	for _, tree := range []impl.Tree{nums(5), nums(1, 2), named(0), named(3), ofOne(1, named(0)), ofOne(8, nums(3)), ofTwo(0, nums(1), named(2)), ofTwo(11, ofOne(1, named(0)), nums(2)), reducing(0, named(1)), reducing(7, ofTwo(3, named(0), nums(1)))} {
		if !impl.ValidTree(tree) {
			t.Errorf("%v is not valid", tree)
		}
		otherTrees(tree, func(why string, bad impl.Tree) { wantNotValid(t, why, bad) })
	}
	wantNotValid(t, "the zero value", impl.Tree{})
}

func TestP97TreesLieInFewOthers(t *testing.T) {
	for levels := 1; levels <= 20; levels++ {
		for _, tree := range deepTrees(levels) {
			if impl.ValidTree(tree) != (levels <= impl.MaxDepth) {
				t.Errorf("%d levels: ValidTree(%v) = %v", levels, tree, impl.ValidTree(tree))
			}
			if levels > impl.MaxDepth {
				wantNotWritten(t, tree)
			}
		}
	}
	// Two signs and two long sides: the whole tree is full.
	full := nums(1)
	for range impl.MaxDepth - 1 {
		full = ofTwo(0, full, full)
	}
	if !impl.ValidTree(full) || impl.ValidTree(ofOne(1, full)) {
		t.Error("a full tree of MaxDepth levels is not valid, or a higher one is")
	}
	wantNotWritten(t, full)
}

func TestP97TreesDoNotHaveThemselves(t *testing.T) {
	for _, count := range []int{1, 2, 1000} {
		for kind := range 5 {
			kids := make([]impl.Tree, count)
			for i := range kids {
				kids[i] = impl.Tree{Kind: kind, Kids: kids, Sign: impl.SignMinus}
			}
			wantNotValid(t, "itself", kids[0])
		}
	}
}

func TestP98TreesHaveTokens(t *testing.T) {
	everyParsed(func(list []impl.Token) {
		tree := parsed(t, list)
		if back := written(t, tree); !equalTree(parsed(t, back), tree) {
			t.Errorf("ParseTokens(%v) = %v, but ParseTokens(%v) = %v", list, tree, back, parsed(t, back))
		}
	})
}

func TestP98TokensAreReadFromRightToLeft(t *testing.T) {
	check := func(list []impl.Token) {
		want, fine := readFromLeft(list)
		if !fine {
			wantNoTree(t, list)
		} else if tree := parsed(t, list); !equalTree(tree, want) {
			t.Errorf("ParseTokens(%v) = %v, want %v", list, tree, want)
		}
	}
	everyShortList(check)
	for _, s := range slices.Concat(parsedTexts(), otherParsedTexts()) {
		check(tokens(t, s))
	}
}

func TestP98TokensHaveTheirTrees(t *testing.T) {
	a, b, minus := named(0), named(1), impl.SignMinus
	for s, want := range map[string]impl.Tree{
		"a":           a,
		"1 _2 3":      nums(1, -2, 3),
		"2*3-1":       ofTwo(2, nums(2), ofTwo(minus, nums(3), nums(1))),
		"(2*3)-1":     ofTwo(minus, ofTwo(2, nums(2), nums(3)), nums(1)),
		"1 2 3-4 5":   ofTwo(minus, nums(1, 2, 3), nums(4, 5)),
		"(1 2)-(3)":   ofTwo(minus, nums(1, 2), nums(3)),
		"--4":         ofOne(minus, ofOne(minus, nums(4))),
		"1--4":        ofTwo(minus, nums(1), ofOne(minus, nums(4))),
		"1---4":       ofTwo(minus, nums(1), ofOne(minus, ofOne(minus, nums(4)))),
		"(-a)-b":      ofTwo(minus, ofOne(minus, a), b),
		"-a-b":        ofOne(minus, ofTwo(minus, a, b)),
		"(a)--b":      ofTwo(minus, a, ofOne(minus, b)),
		"(--b)":       ofOne(minus, ofOne(minus, b)),
		"-/a":         reducing(minus, a),
		"--/a":        ofOne(minus, reducing(minus, a)),
		"b--/a":       ofTwo(minus, b, reducing(minus, a)),
		"-/-a":        reducing(minus, ofOne(minus, a)),
		"+/-/a":       reducing(0, reducing(minus, a)),
		"+/b-a":       reducing(0, ofTwo(minus, b, a)),
		"(+/b)-a":     ofTwo(minus, reducing(0, b), a),
		"%/#a":        reducing(impl.SignRest, ofOne(impl.SignShape, a)),
		"2 2#!4":      ofTwo(impl.SignShape, nums(2, 2), ofOne(impl.SignCount, nums(4))),
		"a@,b":        ofTwo(impl.SignPick, a, ofOne(impl.SignComma, b)),
		"a,b":         ofTwo(impl.SignComma, a, b),
		"((((a))))":   a,
		"((a)-((b)))": ofTwo(minus, a, b),
	} {
		if tree := parsed(t, tokens(t, s)); !equalTree(tree, want) {
			t.Errorf("ParseTokens of %q = %v, want %v", s, tree, want)
		}
	}
}

func TestP98OtherTokensHaveNoTree(t *testing.T) {
	for _, s := range otherParsedTexts() {
		wantNoTree(t, tokens(t, s))
	}
	for _, bad := range otherTokens() {
		wantNoTree(t, []impl.Token{bad})
		wantNoTree(t, []impl.Token{bad, sign(0), number(1)})
		wantNoTree(t, []impl.Token{name('a'), sign(0), bad})
		wantNoTree(t, []impl.Token{name('a'), bad, number(1)})
	}
	wantNoTree(t, slices.Repeat([]impl.Token{number(1)}, impl.MaxTokens+1))
	// In so many parentheses a name has too many tokens.
	wantNoTree(t, slices.Concat(slices.Repeat([]impl.Token{sign(13)}, 20), []impl.Token{name('a')}, slices.Repeat([]impl.Token{sign(14)}, 20)))
	for value := range len(allSigns) {
		wantNoTree(t, slices.Repeat([]impl.Token{sign(value)}, impl.MaxTokens))
	}
}

func TestP99TreesHaveNoMoreTokensThanNeeded(t *testing.T) {
	everyParsed(func(list []impl.Token) {
		if back := written(t, parsed(t, list)); len(back) > len(list) {
			t.Errorf("%v became %v", list, back)
		}
	})
}

func TestP99TokensAreThoseOfTheDocument(t *testing.T) {
	for s, want := range map[string]string{
		"2*3-1": "2*3-1", "(2*3)-1": "(2*3)-1", "2*(3-1)": "2*3-1", "((a))": "a", "+/-a": "+/-a", "+/(-(a))": "+/-a", "- - 4": "--4",
		"1 2#b,3": "1 2#b,3", "(1 2)#(b,(3))": "1 2#b,3", "(+/a)@c": "(+/a)@c", "(-a)-(-b)": "(-a)--b", "((-a)-b)-c": "((-a)-b)-c", "(a)-(b)": "a-b", "(1 2 3)": "1 2 3",
	} {
		if back := format(t, written(t, parsed(t, tokens(t, s)))); back != want {
			t.Errorf("the text of the tree of %q is %q", s, back)
		}
	}
}

func TestP100TokensMakeTheTree(t *testing.T) {
	for _, tree := range validTrees() {
		list := written(t, tree)
		if want := tokensBelow(tree); !slices.Equal(list, want) {
			t.Errorf("TreeTokens(%v) = %v, want %v", tree, list, want)
		}
		if back := parsed(t, list); !equalTree(back, tree) {
			t.Errorf("TreeTokens(%v) = %v, but ParseTokens of it is %v", tree, list, back)
		}
	}
}

func TestP100TreesMayHaveTooManyTokens(t *testing.T) {
	zeros := func(n int) impl.Tree { return nums(make([]int, n)...) }
	for _, x := range []struct {
		tree  impl.Tree
		count int
	}{
		{zeros(40), 40}, {ofOne(1, zeros(39)), 40}, {ofOne(1, zeros(40)), 41},
		{ofTwo(0, zeros(20), zeros(19)), 40}, {ofTwo(0, zeros(20), zeros(20)), 41}, {ofTwo(0, zeros(40), zeros(40)), 81},
		{reducing(0, zeros(38)), 40}, {reducing(0, zeros(39)), 41},
		{ofTwo(0, ofOne(1, zeros(35)), named(0)), 40}, {ofTwo(0, ofOne(1, zeros(36)), named(0)), 41},
	} {
		if !impl.ValidTree(x.tree) {
			t.Errorf("%v is not valid", x.tree)
		}
		if x.count > impl.MaxTokens {
			wantNotWritten(t, x.tree)
		} else if list := written(t, x.tree); len(list) != x.count {
			t.Errorf("TreeTokens(%v) = %v", x.tree, list)
		}
	}
}

func TestP101ParenthesesDoNotChangeATree(t *testing.T) {
	for _, tree := range validTrees() {
		list := enclosed(written(t, tree))
		for ; len(list) <= impl.MaxTokens; list = enclosed(list) {
			if back := parsed(t, list); !equalTree(back, tree) {
				t.Errorf("ParseTokens(%v) = %v, want %v", list, back, tree)
			}
		}
		wantNoTree(t, list)
	}
}

func TestP166TreesHaveAsManyTokensAsParts(t *testing.T) {
	for count := 1; count <= impl.MaxTokens; count++ {
		if list := written(t, nums(make([]int, count)...)); len(list) != count {
			t.Errorf("%d numbers have the tokens %v", count, list)
		}
	}
	for _, tree := range validTrees() {
		count := len(written(t, tree))
		if count < impl.MaxTokens && levelsOf(tree) < impl.MaxDepth {
			for _, value := range signsOfOne() {
				if list := written(t, ofOne(value, tree)); len(list) != count+1 || list[0] != sign(value) {
					t.Errorf("the function %d of %v has the tokens %v", value, tree, list)
				}
			}
		}
		if tree.Kind != impl.TreeTwo {
			continue
		}
		want := len(written(t, tree.Kids[0])) + len(written(t, tree.Kids[1])) + 1
		if tree.Kids[0].Kind != impl.TreeNums && tree.Kids[0].Kind != impl.TreeName {
			want += 2
		}
		if count != want {
			t.Errorf("TreeTokens(%v) has %d tokens, want %d", tree, count, want)
		}
	}
}

// spareTree returns a tree whose lists have spare capacity.
func spareTree(t impl.Tree) impl.Tree {
	t.Nums = roomy(t.Nums)
	t.Kids = append(slices.Clone(t.Kids), named(2), nums(9))[:len(t.Kids)]
	for i, kid := range t.Kids {
		t.Kids[i] = spareTree(kid)
	}
	return t
}

// numsBelow returns the lists of numbers of a tree.
func numsBelow(t impl.Tree) [][]int {
	lists := [][]int{t.Nums}
	for _, kid := range t.Kids {
		lists = append(lists, numsBelow(kid)...)
	}
	return lists
}

// spoil overwrites all trees below a tree, and their spare capacity.
func spoil(t impl.Tree) {
	for _, kid := range t.Kids {
		spoil(kid)
	}
	kids := t.Kids[:cap(t.Kids)]
	for i := range kids {
		kids[i] = impl.Tree{Kind: -9}
	}
}

func TestTreesAreFresh(t *testing.T) {
	list := tokens(t, "(1 2+3 4)-(1 2@5)#+/1 2,a")
	list = append(slices.Clone(list), number(7), number(8))[:len(list)]
	before := slices.Clone(list[:cap(list)])
	one, other := parsed(t, list), parsed(t, list)
	want := clonedTree(other)
	wantApart(t, "trees", slices.Concat(numsBelow(one), numsBelow(other))...)
	spoil(one)
	if !equalTree(other, want) || !equalTree(parsed(t, list), want) || !slices.Equal(list[:cap(list)], before) {
		t.Errorf("trees share memory: %v, %v", other, list)
	}
	spoil(other.Kids[0])
	if !equalTree(other.Kids[1], want.Kids[1]) {
		t.Errorf("the kids of a tree share memory: %v", other)
	}
}

func TestTokensOfTreesAreFresh(t *testing.T) {
	tree := spareTree(ofTwo(0, ofOne(1, nums(1, 2)), reducing(2, ofTwo(10, named(0), nums(3)))))
	lists := numsBelow(tree)
	before := wholes(lists)
	want := clonedTree(tree)
	first, second := written(t, tree), written(t, tree)
	kept := slices.Clone(second)
	for i := range first[:cap(first)] {
		first[:cap(first)][i] = number(9)
	}
	if !slices.Equal(second, kept) || !slices.Equal(written(t, tree), kept) || !equalTree(tree, want) || tree.Kids[:cap(tree.Kids)][2].Name != 2 {
		t.Errorf("the tokens of a tree share memory: %v, %v", second, tree)
	}
	wantKept(t, lists, before)
}
