package tests

import (
	"slices"
	"testing"

	"loop.example/arraylanguage/impl"
)

// shapesOf returns the shapes of arrays.
func shapesOf(vars []impl.Array) [][]int {
	var list [][]int
	for _, a := range vars {
		list = append(list, a.Shape)
	}
	return list
}

// shapings are shapes of the arrays of all names: those of namings, and others
// at the limits.
func shapings() [][][]int {
	list := [][][]int{
		{{30}, {31}, {29}, {60}}, {{60, 1}, {60, 1, 1}, {2, 30}, {2, 5, 6}}, {{0, 60}, {60, 0}, {0, 60, 60}, {60, 60, 0}}, {{}, {0}, {1}, {2}},
		{{2, 2}, {2, 2, 1}, {1, 2, 2}, {4}}, {{0, 0}, {0, 0, 0}, {0}, nil}, {{3}, {3, 1}, {1, 3}, {3}},
	}
	for _, vars := range namings() {
		list = append(list, shapesOf(vars))
	}
	return list
}

// otherShapings are lists that are not valid shapes of the arrays of all names.
func otherShapings() [][][]int {
	list := [][][]int{nil, {}, {{1}}, {{1}, {1}, {1}}, {{1}, {1}, {1}, {1}, {1}}, make([][]int, 3), make([][]int, 1000)}
	for _, bad := range invalidShapes() {
		for n := range impl.Names {
			shapes := shapesOf(plainNames())
			shapes[n] = bad
			list = append(list, shapes)
		}
	}
	return list
}

// everyInference calls f for valid trees with shapes of the arrays of all names.
func everyInference(f func(tree impl.Tree, list [][]int)) {
	trees := evalTrees()
	for _, list := range shapings() {
		for _, tree := range trees {
			f(tree, list)
		}
	}
}

// infer returns InferShape, and fails unless this is a valid shape and true, or
// nothing and false.
func infer(t *testing.T, tree impl.Tree, list [][]int) ([]int, bool) {
	t.Helper()
	shape, ok := impl.InferShape(tree, list)
	valid := impl.ValidArray(impl.Array{Shape: shape, Data: make([]int, max(product(shape), 0))})
	if ok && !valid || !ok && len(shape) > 0 {
		t.Fatalf("InferShape(%v, %v) = %v, %v", tree, list, shape, ok)
	}
	return shape, ok
}

// wantNoShape fails unless a tree has no inferred shape.
func wantNoShape(t *testing.T, tree impl.Tree, list [][]int) {
	t.Helper()
	if shape, ok := infer(t, tree, list); ok {
		t.Errorf("InferShape(%v, %v) = %v", tree, list, shape)
	}
	if n := impl.ItemCount(tree, list); n != -1 {
		t.Errorf("ItemCount(%v, %v) = %d", tree, list, n)
	}
}

// isLimited reports whether lengths of axes, of any size, are a valid shape.
func isLimited(shape []int) bool {
	for _, n := range shape {
		if n < 0 || n > impl.MaxItems {
			return false
		}
	}
	return isShape(shape)
}

// shapeOfOne returns the shape of a function of one array, or of a reduction,
// of a kid with a shape, and whether it is known.
func shapeOfOne(tree impl.Tree, shape []int) ([]int, bool) {
	kid := tree.Kids[0]
	switch {
	case tree.Kind == impl.TreeReduce && len(shape) == 0:
		return nil, true
	case tree.Kind == impl.TreeReduce:
		left := shape[:len(shape)-1]
		return left, isLimited(left)
	case tree.Sign == impl.SignMinus:
		return shape, true
	case tree.Sign == impl.SignShape:
		return []int{len(shape)}, true
	case tree.Sign == impl.SignComma:
		return []int{product(shape)}, true
	}
	return kid.Nums, kid.Kind == impl.TreeNums && len(kid.Nums) == 1 && isLimited(kid.Nums)
}

// shapeOfTwo returns the shape of a function of two kids with shapes, and
// whether it is known.
func shapeOfTwo(tree impl.Tree, first, second []int) ([]int, bool) {
	switch tree.Sign {
	case impl.SignShape:
		lengths := tree.Kids[0].Nums
		return lengths, tree.Kids[0].Kind == impl.TreeNums && isLimited(lengths)
	case impl.SignComma:
		count := product(first) + product(second)
		return []int{count}, len(first) <= 1 && len(second) <= 1 && count <= impl.MaxItems
	case impl.SignPick:
		return second, len(first) == 1 && (first[0] > 0 || product(second) == 0)
	}
	switch {
	case len(first) == 0:
		return second, true
	case len(second) == 0:
		return first, true
	default:
		return first, slices.Equal(first, second)
	}
}

// shapeFrom returns the shape of a tree whose kids have shapes, and whether it
// is known.
func shapeFrom(tree impl.Tree, kids, list [][]int) ([]int, bool) {
	switch {
	case tree.Kind == impl.TreeName:
		return list[tree.Name], true
	case tree.Kind == impl.TreeNums && len(tree.Nums) == 1:
		return nil, true
	case tree.Kind == impl.TreeNums:
		return []int{len(tree.Nums)}, true
	case tree.Kind == impl.TreeTwo:
		return shapeOfTwo(tree, kids[0], kids[1])
	default:
		return shapeOfOne(tree, kids[0])
	}
}

func TestP114InferredShapesAreShapes(t *testing.T) {
	both := 0
	everyEval(func(tree impl.Tree, vars []impl.Array) {
		a, ok := evalTree(t, tree, vars)
		shape, fine := infer(t, tree, shapesOf(vars))
		if ok && fine {
			both++
		}
		if ok && fine && !slices.Equal(a.Shape, shape) {
			t.Errorf("EvalTree(%v, %v) = %v, but InferShape is %v", tree, vars, a, shape)
		}
	})
	if both < 1000 {
		t.Errorf("only %d shapes are inferred", both)
	}
}

// needsNumbers reports whether a shape depends on numbers that are not written
// in a tree.
func needsNumbers(tree impl.Tree) bool {
	if tree.Kind == impl.TreeOne && tree.Sign == impl.SignCount || tree.Kind == impl.TreeTwo && tree.Sign == impl.SignShape {
		return tree.Kids[0].Kind != impl.TreeNums || slices.ContainsFunc(tree.Kids, needsNumbers)
	}
	return slices.ContainsFunc(tree.Kids, needsNumbers)
}

func TestP114ShapesThatDoNotNeedNumbersAreInferred(t *testing.T) {
	everyEval(func(tree impl.Tree, vars []impl.Array) {
		shape, fine := infer(t, tree, shapesOf(vars))
		if needsNumbers(tree) {
			if fine {
				t.Errorf("InferShape(%v, %v) = %v", tree, shapesOf(vars), shape)
			}
			return
		}
		if a, ok := evalTree(t, tree, vars); ok && !fine {
			t.Errorf("EvalTree(%v, %v) = %v, but InferShape fails", tree, vars, a)
		}
	})
}

// inferredTexts are texts and their shapes for those of plainNames.
func inferredTexts() map[string][]int {
	return map[string][]int{
		"7": {}, "_7": {}, "1 2": {2}, "1 2 3 4": {4}, "a": {2}, "b": {2, 3}, "c": {}, "d": {0},
		"-a": {2}, "-b": {2, 3}, "-c": {}, "-d": {0}, "#a": {1}, "#b": {2}, "#c": {0}, "#d": {1}, "##b": {1}, "#7": {0}, "#60 60 0#1": {3}, ",a": {2}, ",b": {6}, ",c": {1}, ",d": {0}, ",7": {1}, ",60 60 0#1": {0}, ",1 1 1#1": {1},
		"!0": {0}, "!1": {1}, "!7": {7}, "!60": {60}, "!(7)": {7},
		"+/a": {}, "+/b": {2}, "+/c": {}, "+/d": {}, "+/+/b": {}, "+/+/+/b": {}, "%/2 3 4#b": {2, 3}, "+/60 0 60#1": {60, 0}, "+/0 60 60#1": {0, 60}, "+/7": {},
		"a+a": {2}, "a+c": {2}, "c+a": {2}, "c+c": {}, "b+c": {2, 3}, "c*b": {2, 3}, "b<b": {2, 3}, "d+c": {0}, "c+d": {0}, "d=d": {0}, "a-1 2": {2}, "1 2-a": {2}, "7%b": {2, 3}, "(#b)&a": {2}, "d|0#1": {0},
		"a@a": {2}, "a@b": {2, 3}, "a@c": {}, "a@d": {0}, "d@d": {0}, "d@0 3#1": {0, 3}, "d@60 60 0#1": {60, 60, 0}, "(!1)@b": {2, 3}, "(,c)@7": {},
		"2 3#a": {2, 3}, "7#c": {7}, "0#a": {0}, "60#a": {60}, "2 0#b": {2, 0}, "60 60 0#1": {60, 60, 0}, "3 4 5#d": {3, 4, 5}, "60 1#d": {60, 1}, "(2 3)#a": {2, 3}, "1#c": {1},
		"a,a": {4}, "a,c": {3}, "c,a": {3}, "c,c": {2}, "d,d": {0}, "d,c": {1}, "a,d": {2}, "1 2,3": {3}, "(!30),!30": {60}, "1,!59": {60}, "(,b),a": {8},
	}
}

func TestP115ShapesHaveTheirLengths(t *testing.T) {
	shapes := shapesOf(plainNames())
	for s, want := range inferredTexts() {
		if shape, ok := infer(t, parsed(t, tokens(t, s)), shapes); !ok || !slices.Equal(shape, want) {
			t.Errorf("InferShape of %q = %v, %v, want %v", s, shape, ok, want)
		}
	}
	for _, s := range []string{
		"!c", "!a", "!_1", "!61", "!1 2", "!0 0", "!-7", "!(1+1)", "!1#5", "!d",
		"a+b", "b+a", "a+d", "d+a", "1 2+1 2 3", "a+1#1", "(1#1)+a", "b+3 2#b", "b+,b", "(1 2#a)+a", "(2 0#1)+0 2#1", "c+a+b",
		"b@a", "b@d", "c@a", "c@d", "7@0", "d@a", "d@c", "d@0", "d@b", "(1 1#1)@c", "(0 0#1)@d", "(!0)@7",
		"a#c", "c#c", "d#c", "b#c", "(1+1)#a", "(-1)#a", "(,2)#a", "_1#a", "61#a", "4 4 4#a", "1 1 1 1#a", "60 2#a", "0 61#a", "2 _1#a", "_1 _1#a", "(#b)#a",
		"b,a", "a,b", "b,b", "c,b", "(1 1#1),c", "d,0 0#1", "(0 0#1),d", "(!31),!30", "1,!60", "(!60),c", "(60#a),,c",
		"+/60 60 0#1", "+/a+b", "-a+b", "#a+b", ",a+b", "2#a+b", "(a+b)#c", "1+a+b", "(a+b)+1", "a@a+b", "(a+b)@a", "(a+b),1", "1,(a+b)",
	} {
		wantNoShape(t, parsed(t, tokens(t, s)), shapes)
	}
}

func TestP115ShapesAreInferredFromParts(t *testing.T) {
	everyInference(func(tree impl.Tree, list [][]int) {
		shape, ok := infer(t, tree, list)
		var kids [][]int
		for _, kid := range tree.Kids {
			part, fine := infer(t, kid, list)
			if !fine && ok {
				t.Errorf("InferShape(%v, %v) = %v, but not of %v", tree, list, shape, kid)
			}
			if !fine {
				return
			}
			kids = append(kids, part)
		}
		want, fine := shapeFrom(tree, kids, list)
		if ok != fine || ok && !slices.Equal(shape, want) {
			t.Errorf("InferShape(%v, %v) = %v, %v, want %v, %v", tree, list, shape, ok, want, fine)
		}
	})
}

func TestP115AllNamesNeedShapes(t *testing.T) {
	for _, tree := range []impl.Tree{nums(1), nums(1, 2), named(0), named(1), named(2), named(3), ofOne(9, nums(5)), ofTwo(0, nums(1), named(2)), reducing(0, nums(1, 2)), ofTwo(8, nums(2), named(0))} {
		if _, ok := infer(t, tree, shapesOf(plainNames())); !ok {
			t.Errorf("InferShape(%v) fails", tree)
		}
		for _, list := range otherShapings() {
			wantNoShape(t, tree, list)
		}
	}
}

func TestP116InferredSizesAreSizes(t *testing.T) {
	everyEval(func(tree impl.Tree, vars []impl.Array) {
		a, ok := evalTree(t, tree, vars)
		if n := impl.ItemCount(tree, shapesOf(vars)); ok && n != -1 && n != impl.SizeOf(a) {
			t.Errorf("EvalTree(%v, %v) = %v, but ItemCount is %d", tree, vars, a, n)
		}
	})
}

func TestP117SizesAreProductsOfLengths(t *testing.T) {
	everyInference(func(tree impl.Tree, list [][]int) {
		shape, ok := infer(t, tree, list)
		want := -1
		if ok {
			want = product(shape)
		}
		if n := impl.ItemCount(tree, list); n != want {
			t.Errorf("ItemCount(%v, %v) = %d, want %d", tree, list, n, want)
		}
	})
	for s, want := range map[string]int{"7": 1, "c": 1, "d": 0, "a": 2, "b": 6, "60 60 0#1": 0, "3 4 5#1": 60, "+/c": 1, "#c": 0, "!0": 0, "a,c": 3} {
		if n := impl.ItemCount(parsed(t, tokens(t, s)), shapesOf(plainNames())); n != want {
			t.Errorf("ItemCount of %q = %d", s, n)
		}
	}
}

func TestP169NamesHaveTheirShapes(t *testing.T) {
	validShapes(func(shape []int) {
		for n := range impl.Names {
			list := shapesOf(plainNames())
			list[n] = shape
			if found, ok := infer(t, named(n), list); !ok || !slices.Equal(found, shape) {
				t.Errorf("InferShape of the name %d with %v = %v, %v", n, list, found, ok)
			}
		}
	})
	for _, list := range shapings() {
		for count := 1; count <= impl.MaxTokens; count++ {
			want := []int{count}
			if count == 1 {
				want = nil
			}
			if shape, ok := infer(t, nums(make([]int, count)...), list); !ok || !slices.Equal(shape, want) {
				t.Errorf("InferShape of %d numbers = %v, %v", count, shape, ok)
			}
		}
	}
	for _, n := range append(beyond(), -1, impl.Names) {
		wantNoShape(t, named(n), shapesOf(plainNames()))
	}
}

func TestInferredShapesAreFresh(t *testing.T) {
	for _, list := range shapings() {
		for n, shape := range list {
			list[n] = roomy(shape)
		}
		for _, tree := range slices.Concat(evalLeaves(), treesAbove(evalLeaves())) {
			tree = spareTree(tree)
			given := slices.Concat(list, numsBelow(tree))
			before := wholes(given)
			want := clonedTree(tree)
			first, ok := impl.InferShape(tree, list)
			second, _ := impl.InferShape(tree, list)
			impl.ItemCount(tree, list)
			wantKept(t, given, before)
			if !equalTree(tree, want) || !slices.Equal(first, second) {
				t.Errorf("InferShape(%v, %v) = %v, %v, and then %v", want, list, first, ok, second)
			}
			wantApart(t, "InferShape", first, second)
			scribble(first)
			scribble(second)
			wantKept(t, given, before)
		}
	}
}
