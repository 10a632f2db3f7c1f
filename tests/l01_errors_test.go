package tests

import (
	"fmt"
	"math"
	"testing"

	"loop.example/g01273/impl"
)

// complexOf returns a complex, or what is none, by its fields.
func complexOf(p int64, dims []int64, maps ...[][]int64) impl.Complex {
	return impl.Complex{Prime: p, Dims: dims, Maps: maps}
}

// noComplexes lists what is no complex.
func noComplexes() []impl.Complex {
	row := [][]int64{{1}}
	zero := [][]int64{{0}}
	list := []impl.Complex{
		{}, {Prime: 2}, {Dims: []int64{1}}, complexOf(2, []int64{}),
		complexOf(2, nil, row), complexOf(2, []int64{1}, row), complexOf(2, []int64{1}, nil), complexOf(2, []int64{1, 1}),
		complexOf(2, []int64{1, 1}, row, row), complexOf(2, []int64{1, 1}, nil), complexOf(2, []int64{1, 1}, [][]int64{nil}),
		complexOf(2, []int64{1, 1}, [][]int64{{1, 1}}), complexOf(2, []int64{1, 1}, [][]int64{{1}, {1}}),
		complexOf(2, []int64{1, 2}, row), complexOf(2, []int64{2, 1}, row), complexOf(2, []int64{0, 1}, row), complexOf(2, []int64{1, 0}, row),
		complexOf(2, []int64{0, 1}, nil), complexOf(2, []int64{0, 0}, [][]int64{{}}), complexOf(2, []int64{2, 2}, [][]int64{{1, 1}, {1}}),
		complexOf(2, []int64{1, 1, 1}, row, row), complexOf(3, []int64{1, 1, 1}, row, [][]int64{{2}}), complexOf(2, []int64{1, 1, 1, 1}, zero, row, row),
		complexOf(2, []int64{9}), complexOf(2, []int64{1, 9}, make([][]int64, 9)), complexOf(2, []int64{-1}), complexOf(2, []int64{1, -1}, nil),
		complexOf(2, []int64{-1, 1}, [][]int64{{}}), complexOf(2, make([]int64, 7), nil, nil, nil, nil, nil, nil), complexOf(2, make([]int64, 100), make([][][]int64, 99)...),
	}
	for _, p := range []int64{0, 1, 4, 6, 8, 9, 10, 11, 13, 49, -2, -3, -5, -7} {
		list = append(list, complexOf(p, []int64{1}), complexOf(p, []int64{1, 1}, zero))
	}
	for _, p := range []int64{2, 3, 5, 7} {
		list = append(list, complexOf(p, []int64{1, 1}, [][]int64{{p}}))
	}
	for _, far := range farNumbers {
		list = append(list, complexOf(far, []int64{1}), complexOf(7, []int64{far}), complexOf(7, []int64{1, far}, nil), complexOf(7, []int64{far, 1}, row),
			complexOf(7, []int64{1, 1}, [][]int64{{far}}), complexOf(7, []int64{1, 1, 1}, zero, [][]int64{{far}}))
	}
	return list
}

// call1 is a call of a function of chapter 1.
type call1 struct {
	name string
	run  func() []any
}

// callsWith1 lists a call of each function of chapter 1 that takes one complex and returns a code,
// first those with a degree.
func callsWith1(x impl.Complex, n int64, v []int64, k int64) []call1 {
	return []call1{
		{"DifferentialOf", func() []any { return all(impl.DifferentialOf(x, n, v)) }},
		{"CyclesOf", func() []any { return all(impl.CyclesOf(x, n)) }},
		{"BoundariesOf", func() []any { return all(impl.BoundariesOf(x, n)) }},
		{"HomologyList", func() []any { return all(impl.HomologyList(x, n)) }},
		{"IsExactAt", func() []any { return all(impl.IsExactAt(x, n)) }},
		{"HomologyNumbers", func() []any { return all(impl.HomologyNumbers(x)) }},
		{"EulerNumber", func() []any { return all(impl.EulerNumber(x)) }},
		{"ShiftComplex", func() []any { return all(impl.ShiftComplex(x, k)) }},
		{"DualComplex", func() []any { return all(impl.DualComplex(x)) }},
		{"ComplexText", func() []any { return all(impl.ComplexText(x)) }},
	}
}

// withDegree is the number of the calls with a degree.
const withDegree = 5

func TestWhatIsNoComplex(t *testing.T) {
	good := complexOf(3, []int64{8}) // other prime and too great a sum: the invalid one is found first
	for _, x := range noComplexes() {
		if impl.IsComplex(x) {
			t.Errorf("IsComplex(%v) = true", x)
		}
		for _, n := range []int64{0, 1, -1, 6, math.MinInt64} {
			for _, call := range callsWith1(x, n, []int64{n}, n) {
				expectCode(t, fmt.Sprintf("%s(%v) with %d", call.name, x, n), impl.ErrInvalid, call.run())
			}
		}
		expectCode(t, fmt.Sprint("AddComplexes with first ", x), impl.ErrInvalid, all(impl.AddComplexes(x, good)))
		expectCode(t, fmt.Sprint("AddComplexes with second ", x), impl.ErrInvalid, all(impl.AddComplexes(good, x)))
		expectCode(t, fmt.Sprint("AddComplexes with both ", x), impl.ErrInvalid, all(impl.AddComplexes(x, x)))
	}
}

func TestDegreesOutOfRange(t *testing.T) {
	for _, x := range []impl.Complex{complexOf(2, []int64{1}), complexOf(5, []int64{1, 1}, [][]int64{{4}}), complexOf(2, make([]int64, 6), make([][][]int64, 5)...)} {
		top := int64(len(x.Dims)) - 1
		for _, n := range append([]int64{top + 1, top + 2}, farNumbers...) {
			for _, call := range callsWith1(x, n, []int64{0}, 0)[:withDegree] {
				expectCode(t, fmt.Sprintf("%s at %d of %v", call.name, n, x), impl.ErrRange, call.run())
			}
		}
		for _, n := range []int64{0, top} {
			for _, call := range callsWith1(x, n, make([]int64, x.Dims[n]), 0) {
				expectCode(t, fmt.Sprintf("%s at %d of %v", call.name, n, x), impl.ErrNone, call.run())
			}
		}
	}
}

func TestVectorsThatAreNone(t *testing.T) {
	x := complexOf(3, []int64{2, 2}, [][]int64{{1, 2}, {0, 1}})
	for n := range int64(2) {
		for _, v := range [][]int64{nil, {}, {1}, {1, 1, 1}, {0, 3}, {3, 0}, {-1, 0}, {0, -1}, make([]int64, 100)} {
			expectCode(t, fmt.Sprint("DifferentialOf ", v), impl.ErrRange, all(impl.DifferentialOf(x, n, v)))
		}
		for _, far := range farNumbers {
			expectCode(t, fmt.Sprint("DifferentialOf with ", far), impl.ErrRange, all(impl.DifferentialOf(x, n, []int64{0, far})))
		}
		expectCode(t, "DifferentialOf", impl.ErrNone, all(impl.DifferentialOf(x, n, []int64{2, 0})))
	}
	empty := complexOf(3, []int64{0})
	expectCode(t, "DifferentialOf nothing", impl.ErrNone, all(impl.DifferentialOf(empty, 0, nil)))
	expectCode(t, "DifferentialOf 0", impl.ErrRange, all(impl.DifferentialOf(empty, 0, []int64{0})))
}

func TestErrorsOfSums(t *testing.T) {
	eight, nine := complexOf(2, []int64{8}), complexOf(3, []int64{8})
	expectCode(t, "different primes ahead of the limit", impl.ErrRange, all(impl.AddComplexes(eight, nine)))
	expectCode(t, "different primes", impl.ErrRange, all(impl.AddComplexes(complexOf(7, []int64{0}), complexOf(5, []int64{0}))))
	expectCode(t, "limit", impl.ErrLimit, all(impl.AddComplexes(nine, complexOf(3, []int64{1}))))
}

func TestErrorsOfShifts(t *testing.T) {
	for _, x := range []impl.Complex{complexOf(2, []int64{1}), complexOf(2, make([]int64, 6), make([][][]int64, 5)...)} {
		for _, k := range append([]int64{6, 7}, farNumbers...) { // also beyond the limit of the top
			expectCode(t, fmt.Sprint("ShiftComplex by ", k), impl.ErrRange, all(impl.ShiftComplex(x, k)))
		}
	}
	line := complexOf(2, []int64{1, 1}, [][]int64{{1}})
	expectCode(t, "ShiftComplex by 4", impl.ErrNone, all(impl.ShiftComplex(line, 4)))
	expectCode(t, "ShiftComplex by 5", impl.ErrLimit, all(impl.ShiftComplex(line, 5)))
	high := complexOf(2, make([]int64, 6), make([][][]int64, 5)...)
	expectCode(t, "ShiftComplex of the top by 0", impl.ErrNone, all(impl.ShiftComplex(high, 0)))
	expectCode(t, "ShiftComplex of the top by 1", impl.ErrLimit, all(impl.ShiftComplex(high, 1)))
}

// expectSpaceCodes checks the code of each function on spaces, with the rows at each place.
func expectSpaceCodes(t *testing.T, want int64, p int64, n int64, rows [][]int64) {
	t.Helper()
	name := fmt.Sprintf("modulo %d, %d numbers, %.60s", p, n, fmt.Sprint(rows))
	expectCode(t, "ReduceRows "+name, want, all(impl.ReduceRows(p, n, rows)))
	expectCode(t, "SumOfSpaces first "+name, want, all(impl.SumOfSpaces(p, n, rows, nil)))
	expectCode(t, "SumOfSpaces second "+name, want, all(impl.SumOfSpaces(p, n, nil, rows)))
	expectCode(t, "MeetOfSpaces first "+name, want, all(impl.MeetOfSpaces(p, n, rows, nil)))
	expectCode(t, "MeetOfSpaces second "+name, want, all(impl.MeetOfSpaces(p, n, nil, rows)))
}

func TestErrorsOfSpaces(t *testing.T) {
	for _, p := range append([]int64{0, 1, 4, 6, 8, 9, 11, 49}, farNumbers...) {
		expectSpaceCodes(t, impl.ErrRange, p, 1, nil)
		expectSpaceCodes(t, impl.ErrRange, p, 1, [][]int64{{0}})
	}
	for _, n := range farNumbers {
		expectSpaceCodes(t, impl.ErrRange, 2, n, nil)
		expectSpaceCodes(t, impl.ErrRange, 2, n, [][]int64{{}})
		expectSpaceCodes(t, impl.ErrRange, 7, 1, [][]int64{{n}})
		expectSpaceCodes(t, impl.ErrRange, 7, 2, [][]int64{{0, 0}, {6, n}})
	}
	for _, rows := range [][][]int64{{{}}, {nil}, {{1}}, {{1, 1, 1}}, {{1, 1}, {1}}, {{1, 1}, {}}, {{5, 0}}, {{0, 5}}, {{0, -1}}} {
		expectSpaceCodes(t, impl.ErrRange, 5, 2, rows)
	}
	expectSpaceCodes(t, impl.ErrRange, 5, 0, [][]int64{{0}})
	expectSpaceCodes(t, impl.ErrRange, 2, 41, [][]int64{make([]int64, 41)})
	expectSpaceCodes(t, impl.ErrNone, 2, 40, [][]int64{make([]int64, 40)})
	g := &numbers{state: 1}
	for _, n := range []int64{0, 1, 40} {
		expectSpaceCodes(t, impl.ErrNone, 7, n, g.table(7, impl.MaxRows, n))
		expectSpaceCodes(t, impl.ErrRange, 7, n, g.table(7, impl.MaxRows+1, n))
	}
}

func TestFunctionsOfChapter1ArePure(t *testing.T) {
	g := &numbers{state: 2}
	list := knownComplexes(3)
	for i, k := range list {
		x, y := withSpare(k.Complex), withSpare(list[(i+1)%len(list)].Complex)
		n := g.below(int64(len(x.Dims)))
		v := withSpare(g.row(x.Prime, x.Dims[n]))
		for _, call := range callsWith1(x, n, v, 1) {
			checkPure(t, call.name, all(x, v), call.run)
		}
		checkPure(t, "IsComplex", all(x), func() []any { return all(impl.IsComplex(x)) })
		checkPure(t, "AddComplexes", all(x, y), func() []any { return all(impl.AddComplexes(x, y)) })
		checkPure(t, "AddComplexes to itself", all(x), func() []any { return all(impl.AddComplexes(x, x)) })
		a, b := withSpare(g.table(3, 5, 6)), withSpare(g.table(3, 2, 6))
		checkPure(t, "ReduceRows", all(a), func() []any { return all(impl.ReduceRows(3, 6, a)) })
		checkPure(t, "SumOfSpaces", all(a, b), func() []any { return all(impl.SumOfSpaces(3, 6, a, b)) })
		checkPure(t, "MeetOfSpaces", all(a, b), func() []any { return all(impl.MeetOfSpaces(3, 6, a, b)) })
		checkPure(t, "MeetOfSpaces with itself", all(a), func() []any { return all(impl.MeetOfSpaces(3, 6, a, a)) })
		text := textOf(t, x)
		checkPure(t, "ParseComplex", all(text), func() []any { return all(impl.ParseComplex(text)) })
	}
	for _, x := range noComplexes() {
		x = withSpare(x)
		checkPure(t, "IsComplex", all(x), func() []any { return all(impl.IsComplex(x)) })
	}
}

func TestShiftsByNothingAreNew(t *testing.T) {
	x := withSpare(complexOf(5, []int64{0, 2, 1, 0}, [][]int64{{}, {}}, [][]int64{{0, 4}}, nil))
	checkPure(t, "ShiftComplex by 0", all(x), func() []any { return all(impl.ShiftComplex(x, 0)) })
	checkPure(t, "AddComplexes with nothing", all(x), func() []any { return all(impl.AddComplexes(x, complexOf(5, []int64{0}))) })
}
