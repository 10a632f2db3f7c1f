package tests

import (
	"fmt"
	"math"
	"reflect"
	"runtime"
	"slices"
	"sync"
	"testing"
	"time"

	"loop.example/g01273/impl"
)

// given7 has arguments for all functions of chapter 7: a whole complex x, a prime p and a page r, a matrix
// rows and one of as many rows as columns, and n and k of a lens complex.
type given7 struct {
	x            impl.Whole
	p, r         int64
	rows, square [][]int64
	n, k         int64
}

// callsWith7 lists a call of each function of chapter 7 that returns a code. The matrices are told by m
// and s.
func callsWith7(a given7) []call {
	return []call{
		{"SmithNumbers", "m", nil, func() []any { return all(impl.SmithNumbers(a.rows)) }},
		{"RankOfWhole", "m", nil, func() []any { return all(impl.RankOfWhole(a.rows)) }},
		{"DeterminantOf", "s", nil, func() []any { return all(impl.DeterminantOf(a.square)) }},
		{"WholeHomology", "x", nil, func() []any { return all(impl.WholeHomology(a.x)) }},
		{"ReduceModulo", "xp", nil, func() []any { return all(impl.ReduceModulo(a.x, a.p)) }},
		{"BocksteinNumbers", "xpr", nil, func() []any { return all(impl.BocksteinNumbers(a.x, a.p, a.r)) }},
		{"LastBockstein", "xp", func() bool { return isBeyondPages(a.x, a.p) }, func() []any { return all(impl.LastBockstein(a.x, a.p)) }},
		{"TorsionOrders", "x", nil, func() []any { return all(impl.TorsionOrders(a.x)) }},
		{"TorsionExponents", "x", nil, func() []any { return all(impl.TorsionExponents(a.x)) }},
		{"DualWhole", "x", nil, func() []any { return all(impl.DualWhole(a.x)) }},
		{"LensComplex", "nk", nil, func() []any { return all(impl.LensComplex(a.n, a.k)) }},
	}
}

// isBeyondPages reports whether the greatest page has torsion of p.
func isBeyondPages(x impl.Whole, p int64) bool {
	for _, table := range x.Maps {
		if dividedBy(smithByElimination(table), p, impl.MaxBockstein) > 0 {
			return true
		}
	}
	return false
}

// wholesWith lists what arises from a whole complex by one change of its lists: of its Dims, and of its
// Maps.
func wholesWith(x impl.Whole, dims []int64, maps []int64) []impl.Whole {
	var list []impl.Whole
	for _, changed := range changesOf(reflect.ValueOf(x.Dims), dims) {
		list = append(list, impl.Whole{Dims: changed.Interface().([]int64), Maps: x.Maps})
	}
	for _, changed := range changesOf(reflect.ValueOf(x.Maps), maps) {
		list = append(list, impl.Whole{Dims: x.Dims, Maps: changed.Interface().(tables)})
	}
	return list
}

// brokenWholes lists what arises from a whole complex by a list of a wrong length at any depth, or by a
// number out of range.
func brokenWholes(x impl.Whole) []impl.Whole {
	return wholesWith(x, append([]int64{impl.MaxWide + 1, impl.MaxWide + 2}, farNumbers...), wholeFar())
}

// noWholes lists what is no whole complex.
func noWholes() []impl.Whole {
	row, zero := [][]int64{{1}}, [][]int64{{0}}
	list := []impl.Whole{
		{}, {Dims: []int64{}}, {Maps: tables{row}}, {Dims: []int64{1}, Maps: tables{row}}, {Dims: []int64{1}, Maps: tables{nil}}, {Dims: []int64{1, 1}},
		{Dims: []int64{1, 1}, Maps: tables{row, row}}, {Dims: []int64{1, 1}, Maps: tables{nil}}, {Dims: []int64{1, 1}, Maps: tables{{nil}}}, {Dims: []int64{1, 1}, Maps: tables{{{1, 1}}}},
		{Dims: []int64{1, 2}, Maps: tables{row}}, {Dims: []int64{2, 1}, Maps: tables{row}}, {Dims: []int64{0, 1}, Maps: tables{row}}, {Dims: []int64{1, 0}, Maps: tables{row}},
		{Dims: []int64{0, 1}, Maps: tables{nil}}, {Dims: []int64{0, 0}, Maps: tables{{{}}}}, {Dims: []int64{1, 2}, Maps: tables{{{1, 0}}}}, {Dims: []int64{2, 1}, Maps: tables{{{1}, {0}}}},
		{Dims: []int64{7}}, {Dims: []int64{1, 7}, Maps: tables{zeros(7, 1)}}, {Dims: []int64{7, 1}, Maps: tables{zeros(1, 7)}}, {Dims: []int64{-1}}, {Dims: []int64{1, -1}, Maps: tables{nil}},
		{Dims: []int64{-1, 1}, Maps: tables{{{}}}}, {Dims: make([]int64, 7), Maps: make(tables, 6)}, {Dims: make([]int64, 1000), Maps: make(tables, 999)},
		{Dims: []int64{1, 1, 1}, Maps: tables{row, row}}, {Dims: []int64{1, 1, 1, 1}, Maps: tables{zero, row, row}}, {Dims: []int64{1, 1, 1, 1}, Maps: tables{row, row, zero}},
		{Dims: []int64{1, 1, 1}, Maps: tables{{{9}}, {{-9}}}}, {Dims: []int64{1, 1, 1}, Maps: tables{{{2}}, {{5}}}}, {Dims: []int64{2, 2, 2}, Maps: tables{{{0, 0}, {0, 1}}, {{0, 0}, {0, 1}}}},
		{Dims: []int64{1, 2, 1}, Maps: tables{{{1}, {1}}, {{1, 1}}}}, {Dims: []int64{1, 2, 1}, Maps: tables{{{1}, {2}}, {{2, 1}}}},
		{Dims: []int64{0, 0, 0, 1, 1, 1}, Maps: tables{nil, nil, {{}}, row, row}},
	}
	g := &numbers{state: 96}
	for _, x := range []impl.Whole{
		{Dims: []int64{0}}, {Dims: []int64{6}}, {Dims: []int64{1, 1}, Maps: tables{row}}, {Dims: []int64{2, 0, 1}, Maps: tables{nil, {{}}}}, {Dims: []int64{0, 2, 0}, Maps: tables{{{}, {}}, nil}},
		anyWhole(g, 2, 4, 2, func() int64 { return 6 }).Whole, anyWhole(g, impl.MaxTop, 6, 1, func() int64 { return 4 }).Whole, twoTerms(greatestMatrix(6), 6),
	} {
		list = append(list, brokenWholes(x)...)
	}
	return list
}

func TestWhatIsNoWhole(t *testing.T) {
	for _, x := range noWholes() {
		expectNoWhole(t, x)
	}
}

// TestSquaresThatAreNotZero has one number other than 0 in the square, at each place of each degree.
func TestSquaresThatAreNotZero(t *testing.T) {
	for n := range int64(impl.MaxTop - 1) {
		for at := range int64(27) {
			i, j, c := at/9, at/3%3, at%3
			x := wholeOf([]int64{3, 3, 3, 3, 3, 3})
			x.Maps[n+1][i][j] = 1
			if !impl.IsWhole(x.Whole) {
				t.Errorf("IsWhole(%v) = false", x)
			}
			x.Maps[n][j][c] = 1
			expectNoWhole(t, x.Whole)
			other := (j + 1) % 3 // led to the same one, with the other sign
			x.Maps[n+1][i][other], x.Maps[n][other][c] = 1, -1
			if !impl.IsWhole(x.Whole) {
				t.Errorf("IsWhole(%v) = false", x)
			}
		}
	}
}

// flaws7 lists flaws of each kind, kind by kind.
func flaws7(x impl.Whole) [][]flaw[given7] {
	var wholes, matrices, squares []flaw[given7]
	for _, bad := range append(noWholes(), brokenWholes(x)...) {
		wholes = append(wholes, flaw[given7]{"x", bad, impl.ErrInvalid, "x", func(a *given7) { a.x = bad }})
	}
	for _, bad := range noMatrices() {
		matrices = append(matrices, flaw[given7]{"m", bad, impl.ErrRange, "m", func(a *given7) { a.rows = bad }})
		squares = append(squares, flaw[given7]{"s", bad, impl.ErrRange, "s", func(a *given7) { a.square = bad }})
	}
	for n := range int64(impl.MaxWide) {
		bad, wide := zeros(n+1, n), zeros(n+1, n+2)
		squares = append(squares, flaw[given7]{"s", bad, impl.ErrRange, "s", func(a *given7) { a.square = bad }}, flaw[given7]{"s", wide, impl.ErrRange, "s", func(a *given7) { a.square = wide }})
	}
	return [][]flaw[given7]{
		wholes, matrices, squares,
		primeFlaws("p", func(a *given7) *int64 { return &a.p }),
		numberFlaws("r", 1, impl.MaxBockstein, func(a *given7) *int64 { return &a.r }),
		numberFlaws("n", 0, impl.MaxWhole, func(a *given7) *int64 { return &a.n }),
		numberFlaws("k", 0, impl.MaxTop, func(a *given7) *int64 { return &a.k }),
	}
}

// givens7 lists arguments without a flaw, among them such with pages beyond MaxBockstein.
func givens7() []given7 {
	g := &numbers{state: 97}
	var list []given7
	for _, k := range knownWholes(3) {
		n := g.below(impl.MaxWide + 1)
		list = append(list, given7{k.Whole, usualPrimes[g.below(4)], 1 + g.below(10), g.matrix(g.below(7), g.below(7), 9), g.matrix(n, n, 9), g.below(10), g.below(6)})
	}
	for _, c := range []struct {
		p     int64
		links []int64
	}{{2, []int64{8, 8, 8, 2}}, {2, []int64{8, 8, 8, 8}}, {2, []int64{8, 8, 8}}, {3, []int64{9, 9, 9, 9, 9}}, {3, []int64{9, 9, 9, 9, 3}}} {
		k := wholeOf([]int64{0, 1, 0}, chain{1, c.links})
		list = append(list, given7{k.Whole, c.p, 1, k.Maps[0], greatestMatrix(6), 9, 5}, given7{k.Whole, 5, 10, k.Maps[1], nil, 0, 0})
	}
	return append(list, given7{twoTerms(greatTorsions()[0].rows, 6), 5, 10, nil, greatTorsions()[0].rows, 9, 0})
}

func TestErrorsOfChapter7(t *testing.T) {
	random := &numbers{state: 98}
	within, beyond := 0, 0
	for at, a := range givens7() {
		isBeyond := isBeyondPages(a.x, a.p)
		if isBeyond {
			beyond++
		} else {
			within++
		}
		kinds := flaws7(a.x)
		expectSingleFlaws(t, random, a, callsWith7, kinds, 12)
		if isBeyond || at%4 == 0 {
			expectPairsOfFlaws(t, random, a, callsWith7, kinds, func(flaw[given7], flaw[given7]) bool { return false })
		}
	}
	if within < 50 || beyond < 4 {
		t.Errorf("%d with a last page, %d without", within, beyond)
	}
}

// TestEachErrorOfChapter7 has all flaws, one by one, of arguments with and without a last page.
func TestEachErrorOfChapter7(t *testing.T) {
	list := givens7()
	for _, a := range []given7{list[20], list[len(list)-1]} {
		for _, kind := range flaws7(a.x) {
			for _, one := range kind {
				expectFlaws(t, a, callsWith7, one)
			}
		}
	}
}

func TestPrimesAndPagesOutOfRange(t *testing.T) {
	x, beyond := twoTerms([][]int64{{4}}, 1), twoTerms(greatTorsions()[0].rows, 6)
	for p := int64(-20); p <= 130; p++ {
		want, last := int64(impl.ErrRange), int64(impl.ErrRange)
		if slices.Contains(usualPrimes, p) {
			want, last = impl.ErrNone, impl.ErrNone
		}
		if p == 5 {
			last = impl.ErrLimit
		}
		for r := int64(-3); r <= 14; r++ {
			page := want
			if r < 1 || r > impl.MaxBockstein {
				page = impl.ErrRange
			}
			expectCode(t, fmt.Sprintf("BocksteinNumbers of %d at %d", p, r), page, all(impl.BocksteinNumbers(x, p, r)))
		}
		expectCode(t, fmt.Sprint("ReduceModulo of ", p), want, all(impl.ReduceModulo(x, p)))
		expectCode(t, fmt.Sprint("LastBockstein of ", p), want, all(impl.LastBockstein(x, p)))
		expectCode(t, fmt.Sprint("LastBockstein beyond of ", p), last, all(impl.LastBockstein(beyond, p)))
	}
}

func TestLensComplexesOutOfRange(t *testing.T) {
	far := append([]int64{6, 7, 9, 10, 11, 1 << 32, 1<<32 + 1, math.MinInt64 + 3}, farNumbers...)
	for _, n := range append(far, 0, 1, 5) {
		for _, k := range append(far, 0, 1, 5) {
			want := int64(impl.ErrNone)
			if n < 0 || n > impl.MaxWhole || k < 0 || k > impl.MaxTop {
				want = impl.ErrRange
			}
			expectCode(t, fmt.Sprintf("LensComplex of %d and %d", n, k), want, all(impl.LensComplex(n, k)))
		}
	}
}

// args7 lists the arguments that have memory.
func args7(a given7) []any { return all(a.x, a.rows, a.square) }

func TestFunctionsOfChapter7ArePure(t *testing.T) {
	random := &numbers{state: 99}
	check := func(a given7) {
		a.x, a.rows, a.square = withSpare(a.x), withSpare(a.rows), withSpare(a.square)
		for _, call := range callsWith7(a) {
			checkPure(t, call.name, args7(a), call.run)
		}
		checkPure(t, "IsWhole", args7(a), func() []any { return all(impl.IsWhole(a.x)) })
	}
	for at, a := range givens7() {
		check(a)
		if at%6 != 0 {
			continue
		}
		for _, kind := range flaws7(a.x) {
			for _, one := range someOf(random, kind, 3) {
				b := a
				one.apply(&b)
				check(b)
			}
		}
		// rows of one matrix, and matrices of one complex, that share their memory
		row := withSpare([]int64{2, -4, 6})
		rows := [][]int64{row, row, row}
		x := impl.Whole{Dims: []int64{3, 3, 3, 3}, Maps: tables{rows, zeros(3, 3), rows}}
		for _, call := range callsWith7(given7{x: x, p: 2, r: 1, rows: rows, square: rows}) {
			checkPure(t, call.name, all(x, rows), call.run)
		}
	}
}

// resultsOf7 tells the results of all calls with arguments.
func resultsOf7(a given7) string {
	text := fmt.Sprint(impl.IsWhole(a.x))
	for _, call := range callsWith7(a) {
		text += fmt.Sprint("; ", call.name, " ", call.run())
	}
	return text
}

// TestCallsOfChapter7EndTheirGoroutines has as many goroutines behind many calls, with and without errors,
// as ahead of them.
func TestCallsOfChapter7EndTheirGoroutines(t *testing.T) {
	before := runtime.NumGoroutine()
	list := givens7()
	for _, a := range list {
		resultsOf7(a)
		for _, kind := range flaws7(a.x) {
			kind[0].apply(&a)
		}
		resultsOf7(a)
	}
	// a goroutine that has told its end may still be about to go
	for range 500 {
		if runtime.NumGoroutine() <= before {
			return
		}
		time.Sleep(10 * time.Millisecond)
	}
	t.Errorf("%d goroutines, and then %d", before, runtime.NumGoroutine())
}

// TestCallsOfChapter7AtTheSameTime has the same answers in many goroutines, for the same arguments.
func TestCallsOfChapter7AtTheSameTime(t *testing.T) {
	list := givens7()
	var want []string
	for _, a := range list {
		want = append(want, resultsOf7(a))
	}
	var group sync.WaitGroup
	for range 8 {
		group.Go(func() {
			for at, a := range list {
				if got := resultsOf7(a); got != want[at] {
					t.Errorf("%s, and then %s", want[at], got)
				}
			}
		})
	}
	group.Wait()
}
