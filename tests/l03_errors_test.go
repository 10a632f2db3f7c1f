package tests

import (
	"fmt"
	"math"
	"reflect"
	"testing"

	"loop.example/g01273/impl"
)

// call3 is a call of a function of chapter 3.
type call3 struct {
	name string
	run  func() []any
}

// callsWith3 lists the functions of chapter 3 that take a double complex and return a code.
func callsWith3(x impl.Double, i int64) []call3 {
	return []call3{
		{"TotalOf", func() []any { return all(impl.TotalOf(x)) }},
		{"FilteredTotal by columns", func() []any { return all(impl.FilteredTotal(x, false)) }},
		{"FilteredTotal by rows", func() []any { return all(impl.FilteredTotal(x, true)) }},
		{"ColumnHomology", func() []any { return all(impl.ColumnHomology(x)) }},
		{"RowHomology", func() []any { return all(impl.RowHomology(x)) }},
		{"SecondNumbers by columns", func() []any { return all(impl.SecondNumbers(x, false)) }},
		{"SecondNumbers by rows", func() []any { return all(impl.SecondNumbers(x, true)) }},
		{"TransposeDouble", func() []any { return all(impl.TransposeDouble(x)) }},
		{"DoubleEuler", func() []any { return all(impl.DoubleEuler(x)) }},
		{"ColumnOf", func() []any { return all(impl.ColumnOf(x, i)) }},
	}
}

// changesOf lists copies of a list, of lists at any depth, with one change each: a list with one
// element less or more, or a number that is not in any range.
func changesOf(v reflect.Value, bad []int64) []reflect.Value {
	var out []reflect.Value
	if v.Kind() == reflect.Int64 {
		for _, number := range bad {
			if number != v.Int() {
				out = append(out, reflect.ValueOf(number))
			}
		}
		return out
	}
	if n := v.Len(); n > 0 {
		out = append(out, v.Slice(0, n-1), v.Slice(1, n))
	}
	longer := reflect.MakeSlice(v.Type(), v.Len()+1, v.Len()+1)
	reflect.Copy(longer, v)
	out = append(out, longer, reflect.MakeSlice(v.Type(), 0, 0))
	if v.Len() == 0 {
		out = out[:1]
	}
	for k := range v.Len() {
		for _, element := range changesOf(v.Index(k), bad) {
			changed := reflect.MakeSlice(v.Type(), v.Len(), v.Len())
			reflect.Copy(changed, v)
			changed.Index(k).Set(element)
			out = append(out, changed)
		}
	}
	return out
}

// brokenDoubles lists what arises from a double complex by one change of its lists.
func brokenDoubles(x impl.Double) []impl.Double {
	var list []impl.Double
	bad := append([]int64{x.Prime, x.Prime + 1, 5 + x.Prime}, farNumbers...)
	for _, dims := range changesOf(reflect.ValueOf(x.Dims), bad) {
		list = append(list, impl.Double{Prime: x.Prime, Dims: dims.Interface().([][]int64), Across: x.Across, Down: x.Down})
	}
	for _, across := range changesOf(reflect.ValueOf(x.Across), bad) {
		list = append(list, impl.Double{Prime: x.Prime, Dims: x.Dims, Across: across.Interface().([][][][]int64), Down: x.Down})
	}
	for _, down := range changesOf(reflect.ValueOf(x.Down), bad) {
		list = append(list, impl.Double{Prime: x.Prime, Dims: x.Dims, Across: x.Across, Down: down.Interface().([][][][]int64)})
	}
	return list
}

// wrongDims lists dimensions that no double complex has.
func wrongDims() [][][]int64 {
	list := [][][]int64{
		nil, {{}}, {{}, {}}, {nil, {1}}, {{1}, nil}, {{1, 1}, {1}}, {{1}, {1, 1}}, {{1, 1}, {1, 1}, {1, 1, 1}}, {{0, 0}, {0}}, {{0}, {0, 0}},
		sameDims(5, 1, 0), sameDims(1, 5, 0), sameDims(5, 5, 1), sameDims(5, 4, 1), sameDims(4, 5, 1), sameDims(1000, 1, 0), sameDims(1, 1000, 0),
		{{5}}, {{-1}}, {{5, 0}, {0, 0}}, {{0, 0}, {0, 5}}, {{0, -1}, {0, 0}}, {{0, 0}, {-1, 0}}, sameDims(4, 4, 5),
	}
	for _, far := range farNumbers {
		list = append(list, [][]int64{{far}}, [][]int64{{1, 1}, {1, far}})
	}
	return list
}

// withNumbers returns x with 1 at the first number of a table across, or down, of each cell told.
func withNumbers(x impl.Double, across []spot, down []spot) impl.Double {
	for _, c := range across {
		x.Across[c.i][c.j][0][0] = 1
	}
	for _, c := range down {
		x.Down[c.i][c.j][0][0] = 1
	}
	return x
}

// wrongSquares lists what is no double complex because of its differentials alone, at each place.
func wrongSquares(p int64, w int64, h int64, dim int64) []impl.Double {
	var list []impl.Double
	for i := range w {
		for j := range h {
			start := func() impl.Double { return zeroDouble(p, sameDims(w, h, dim)) }
			c, left, below := spot{i, j}, spot{i - 1, j}, spot{i, j - 1}
			if i > 1 {
				list = append(list, withNumbers(start(), []spot{c, left}, nil))
			}
			if j > 1 {
				list = append(list, withNumbers(start(), nil, []spot{c, below}))
			}
			if i == 0 || j == 0 {
				continue
			}
			list = append(list, withNumbers(start(), []spot{c}, []spot{left}), withNumbers(start(), []spot{below}, []spot{c}))
			if p > 2 {
				list = append(list, withNumbers(start(), []spot{c, below}, []spot{c, left}))
			}
		}
	}
	return list
}

// noDoubles lists what is no double complex.
func noDoubles() []impl.Double {
	list := []impl.Double{{}, {Prime: 2}, {Dims: [][]int64{{0}}}, {Prime: 2, Dims: [][]int64{{0}}}, {Prime: 2, Across: make([][][][]int64, 1), Down: make([][][][]int64, 1)}}
	for _, dims := range wrongDims() {
		list = append(list, zeroDouble(2, dims))
	}
	for _, p := range append([]int64{0, 1, 4, 6, 8, 9, 10, 11, 13, 49, -3, -5, -7}, farNumbers...) {
		list = append(list, zeroDouble(p, [][]int64{{0}}), zeroDouble(p, sameDims(2, 2, 1)))
	}
	g := &numbers{state: 43}
	for _, p := range []int64{2, 3, 5, 7} {
		list = append(list, wrongSquares(p, 2, 2, 1)...)
		list = append(list, wrongSquares(p, 1, 3, 1)...)
		list = append(list, wrongSquares(p, 3, 1, 2)...)
		list = append(list, wrongSquares(p, 4, 4, 1)...)
		list = append(list, wrongSquares(p, 4, 4, 4)...)
		list = append(list, brokenDoubles(doubleOf(g, p, 2, 2, 3).Double)...)
	}
	list = append(list, brokenDoubles(zeroDouble(2, [][]int64{{0}}))...)
	list = append(list, brokenDoubles(zeroDouble(3, [][]int64{{1}}))...)
	list = append(list, brokenDoubles(zeroDouble(3, [][]int64{{1, 0, 2}}))...)
	list = append(list, brokenDoubles(zeroDouble(5, [][]int64{{1}, {0}, {2}, {4}}))...)
	return append(list, brokenDoubles(doubleOf(g, 7, 4, 4, 12).Double)...)
}

func TestWhatIsNoDouble(t *testing.T) {
	for _, x := range noDoubles() {
		if impl.IsDouble(x) {
			t.Errorf("IsDouble(%v) = true", x)
		}
		for _, i := range []int64{0, -1, impl.MaxSide, math.MaxInt64} { // the invalid one is found first
			for _, call := range callsWith3(x, i) {
				expectCode(t, fmt.Sprintf("%s(%v) with %d", call.name, x, i), impl.ErrInvalid, call.run())
			}
		}
	}
}

// TestSquaresThatAddUp has both orders of both differentials other than 0, and their sum 0.
func TestSquaresThatAddUp(t *testing.T) {
	for _, p := range []int64{2, 3, 5, 7} {
		for i := int64(1); i < impl.MaxSide; i++ {
			for j := int64(1); j < impl.MaxSide; j++ {
				for _, dim := range []int64{1, impl.MaxCell} {
					c, left, below := spot{i, j}, spot{i - 1, j}, spot{i, j - 1}
					x := withNumbers(zeroDouble(p, sameDims(4, 4, dim)), []spot{c, below}, []spot{c, left})
					x.Across[i][j][0][0] = p - 1
					expectDouble(t, fmt.Sprint("square at ", c), x)
				}
			}
		}
	}
}

func TestColumnsOutOfRange(t *testing.T) {
	for w := int64(1); w <= impl.MaxSide; w++ {
		for h := int64(1); h <= impl.MaxSide; h++ {
			x := zeroDouble(3, sameDims(w, h, 1))
			for _, i := range append([]int64{w, w + 1, 1 << 32}, farNumbers...) {
				expectCode(t, fmt.Sprintf("ColumnOf %d of %d", i, w), impl.ErrRange, all(impl.ColumnOf(x, i)))
			}
			for _, i := range []int64{0, w - 1} {
				want := complexOf(3, sameDims(1, h, 1)[0], x.Down[i][1:]...)
				expectResults(t, fmt.Sprintf("ColumnOf %d of %d", i, w), all(want, 0), all(impl.ColumnOf(x, i)))
			}
		}
	}
}

// TestRowsWithoutNumbersInDoubles has vectors in the first column and in the lowest cells alone.
func TestRowsWithoutNumbersInDoubles(t *testing.T) {
	x := zeroDouble(3, [][]int64{{2, 0}, {3, 0}})
	x.Across[1][0] = [][]int64{{1, 0}, {0, 0}, {0, 2}}
	for i, rows := range []int{2, 3} {
		if len(x.Down[i][0]) != rows || len(x.Down[i][0][0]) != 0 {
			t.Fatalf("rows %v", x.Down[i][0])
		}
	}
	expectResults(t, "ColumnHomology", all([][]int64{{2, 0}, {3, 0}}, 0), all(impl.ColumnHomology(x)))
	expectResults(t, "RowHomology", all([][]int64{{0, 0}, {1, 0}}, 0), all(impl.RowHomology(x)))
	expectResults(t, "SecondNumbers", all([][]int64{{0, 0}, {1, 0}}, 0), all(impl.SecondNumbers(x, false)))
	y := transposed(t, x)
	expectResults(t, "rows across", all([][][]int64{{{}, {}}, {{}, {}, {}}}), all(y.Across[0]))
	expectResults(t, "rows down", all([][][]int64{{{}, {}}, {{1, 0}, {0, 0}, {0, 2}}}), all(y.Down[0]))
}

func TestFunctionsOfChapter3ArePure(t *testing.T) {
	for _, k := range knownDoubles(2) {
		x := withSpare(k.Double)
		checkPure(t, "IsDouble", all(x), func() []any { return all(impl.IsDouble(x)) })
		for i := range int64(len(x.Dims)) {
			for _, call := range callsWith3(x, i) {
				checkPure(t, call.name, all(x), call.run)
			}
		}
		checkPure(t, "ColumnOf with errors", all(x), func() []any { return all(impl.ColumnOf(x, -1)) })
	}
	for _, p := range []int64{2, 3} {
		for _, first := range factors(p) {
			x, y := withSpare(first), withSpare(complexOf(p, []int64{1, 0, 1, 1}, nil, [][]int64{{}}, [][]int64{{1}}))
			checkPure(t, "ProductDouble", all(x, y), func() []any { return all(impl.ProductDouble(x, y)) })
			checkPure(t, "ProductDouble of others", all(x, y), func() []any { return all(impl.ProductDouble(y, x)) })
			checkPure(t, "ProductDouble with itself", all(x), func() []any { return all(impl.ProductDouble(x, x)) })
		}
	}
	for _, x := range noDoubles()[:200] {
		x = withSpare(x)
		checkPure(t, "IsDouble", all(x), func() []any { return all(impl.IsDouble(x)) })
		checkPure(t, "TotalOf with errors", all(x), func() []any { return all(impl.TotalOf(x)) })
	}
}
