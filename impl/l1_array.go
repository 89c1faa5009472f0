package impl

// MaxRank is the largest number of axes.
const MaxRank = 3

// MaxItems is the largest number of numbers of an array.
const MaxItems = 60

// MaxNum is the largest absolute value of a number.
const MaxNum = 1000000

// Array is numbers in the order of their places, the last axis first.
type Array struct {
	Shape []int
	Data  []int
}

// layout is a valid shape with the stride of each axis: what the number of a
// place grows by if its index for this axis grows by 1.
type layout struct {
	shape   []int
	strides [MaxRank]int
	size    int
}

// layoutOf returns the layout of a shape, and whether the shape is valid.
func layoutOf(shape []int) (layout, bool) {
	if len(shape) > MaxRank {
		return layout{}, false
	}
	l := layout{shape: shape, size: 1}
	for k := len(shape) - 1; k >= 0; k-- {
		if shape[k] < 0 || shape[k] > MaxItems {
			return layout{}, false
		}
		l.strides[k] = l.size
		l.size *= shape[k]
	}
	// Only the whole product is limited: the product of some lengths may be
	// greater if another axis has no places.
	if l.size > MaxItems {
		return layout{}, false
	}
	return l, true
}

// isNumber reports whether an array may have a number.
func isNumber(n int) bool {
	return -MaxNum <= n && n <= MaxNum
}

// copyList returns a list in new memory. It is not slices.Clone, whose result
// for an empty slice points into its argument.
func copyList(list []int) []int {
	out := make([]int, len(list))
	copy(out, list)
	return out
}

// copyArray returns an array in new memory.
func copyArray(a Array) Array {
	return Array{Shape: copyList(a.Shape), Data: copyList(a.Data)}
}

// arrayWith returns an array of a shape that has at(n) as its number n, and
// true; the zero value and false if the shape is not valid. It keeps the shape.
func arrayWith(shape []int, at func(n int) int) (Array, bool) {
	l, ok := layoutOf(shape)
	if !ok {
		return Array{}, false
	}
	data := make([]int, l.size)
	for n := range data {
		data[n] = at(n)
	}
	return Array{Shape: shape, Data: data}, true
}

// ValidArray reports whether an array is valid.
func ValidArray(a Array) bool {
	l, ok := layoutOf(a.Shape)
	if !ok || len(a.Data) != l.size {
		return false
	}
	for _, n := range a.Data {
		if !isNumber(n) {
			return false
		}
	}
	return true
}

// RankOf returns the number of axes.
func RankOf(a Array) int {
	if !ValidArray(a) {
		return -1
	}
	return len(a.Shape)
}

// SizeOf returns the number of numbers.
func SizeOf(a Array) int {
	if !ValidArray(a) {
		return -1
	}
	return len(a.Data)
}

// ScalarOf returns a number as an array.
func ScalarOf(n int) Array {
	if !isNumber(n) {
		return Array{}
	}
	return Array{Data: []int{n}}
}

// VectorOf returns numbers as an array.
func VectorOf(list []int) Array {
	shape := []int{len(list)}
	if !ValidArray(Array{Shape: shape, Data: list}) {
		return Array{}
	}
	return Array{Shape: shape, Data: copyList(list)}
}

// CountTo returns the first numbers as an array.
func CountTo(n int) Array {
	if n < 0 || n > MaxItems {
		return Array{}
	}
	data := make([]int, n)
	for i := range data {
		data[i] = i
	}
	return Array{Shape: []int{n}, Data: data}
}
