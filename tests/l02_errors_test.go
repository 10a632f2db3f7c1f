package tests

import (
	"fmt"
	"math"
	"testing"

	"loop.example/g01273/impl"
)

// call2 is a call of a function of chapter 2, with the numbers that it takes.
type call2 struct {
	name    string
	r, n, q bool
	run     func(r int64, n int64, q int64) []any
}

// callsWith2 lists the functions of chapter 2 that take a filtered complex and return a code.
func callsWith2(x impl.Filtered) []call2 {
	return []call2{
		{"PartOf", false, false, true, func(r, n, q int64) []any { return all(impl.PartOf(x, q)) }},
		{"ApproximateCycles", true, true, true, func(r, n, q int64) []any { return all(impl.ApproximateCycles(x, r, n, q)) }},
		{"BottomOf", true, true, true, func(r, n, q int64) []any { return all(impl.BottomOf(x, r, n, q)) }},
		{"PageNumber", true, true, true, func(r, n, q int64) []any { return all(impl.PageNumber(x, r, n, q)) }},
		{"PageTable", true, false, false, func(r, n, q int64) []any { return all(impl.PageTable(x, r)) }},
		{"PageBasis", true, true, true, func(r, n, q int64) []any { return all(impl.PageBasis(x, r, n, q)) }},
		{"PageDifferential", true, true, true, func(r, n, q int64) []any { return all(impl.PageDifferential(x, r, n, q)) }},
		{"DifferentialRank", true, true, true, func(r, n, q int64) []any { return all(impl.DifferentialRank(x, r, n, q)) }},
		{"LimitNumber", false, true, true, func(r, n, q int64) []any { return all(impl.LimitNumber(x, n, q)) }},
		{"LastPage", false, false, false, func(r, n, q int64) []any { return all(impl.LastPage(x)) }},
	}
}

// withLevels returns a filtered complex, or what is none, by its fields.
func withLevels(x impl.Complex, levels ...[]int64) impl.Filtered {
	return impl.Filtered{Complex: x, Levels: levels}
}

// noFiltereds lists what is no filtered complex.
func noFiltereds() []impl.Filtered {
	line := complexOf(3, []int64{1, 2}, [][]int64{{1}, {0}})
	point := complexOf(2, []int64{1})
	nothing := complexOf(2, []int64{0})
	list := []impl.Filtered{
		{}, {Complex: point}, {Complex: line}, {Complex: nothing}, {Levels: [][]int64{{0}}},
		withLevels(point, []int64{}), withLevels(point, nil), withLevels(point, []int64{0, 0}), withLevels(point, []int64{0}, nil), withLevels(point, nil, []int64{0}),
		withLevels(line, []int64{0}), withLevels(line, []int64{0}, []int64{0}), withLevels(line, []int64{0}, []int64{0, 0, 0}), withLevels(line, []int64{0, 0}, []int64{0, 0}),
		withLevels(line, []int64{0, 0}, []int64{0}), withLevels(line, nil, []int64{0, 0}), withLevels(line, []int64{0}, []int64{0, 0}, nil), withLevels(line, nil, []int64{0}, []int64{0, 0}),
		withLevels(line, []int64{1}, []int64{0, 0}), withLevels(line, []int64{1}, []int64{0, 1}), withLevels(line, []int64{5}, []int64{4, 5}), withLevels(line, []int64{5}, []int64{0, 0}),
		withLevels(nothing, []int64{0}), withLevels(nothing, nil, nil), withLevels(nothing, make([][]int64, 100)...), withLevels(point, make([]int64, 100)),
		// only the last number, or one of two maps, raises the level
		withLevels(complexOf(5, []int64{2, 2}, [][]int64{{1, 1}, {0, 4}}), []int64{0, 3}, []int64{3, 2}),
		withLevels(complexOf(5, []int64{1, 1, 1}, [][]int64{{0}}, [][]int64{{2}}), []int64{0}, []int64{1}, []int64{0}),
		withLevels(complexOf(5, []int64{1, 1, 1}, [][]int64{{2}}, [][]int64{{0}}), []int64{1}, []int64{0}, []int64{5}),
	}
	for _, level := range append([]int64{impl.MaxLevel + 1}, farNumbers...) {
		list = append(list, withLevels(point, []int64{level}),
			withLevels(line, []int64{level}, []int64{5, 5}), withLevels(line, []int64{0}, []int64{0, level}),
			withLevels(line, []int64{0}, []int64{level, 0}))
	}
	for _, x := range noComplexes() {
		levels := make([][]int64, len(x.Dims))
		for n, dim := range x.Dims {
			levels[n] = make([]int64, min(max(dim, 0), 20))
		}
		list = append(list, impl.Filtered{Complex: x, Levels: levels})
	}
	return list
}

func TestWhatIsNotFiltered(t *testing.T) {
	for _, x := range noFiltereds() {
		if impl.IsFiltered(x) {
			t.Errorf("IsFiltered(%v) = true", x)
		}
		for _, call := range callsWith2(x) {
			for _, number := range []int64{0, 1, -1, 9, math.MinInt64, math.MaxInt64} { // the invalid one is found first
				expectCode(t, fmt.Sprintf("%s(%v) with %d", call.name, x, number), impl.ErrInvalid, call.run(number, number, number))
			}
		}
	}
}

// filteredsOfAllTops lists a filtered complex of each top.
func filteredsOfAllTops() []impl.Filtered {
	g := &numbers{state: 23}
	var list []impl.Filtered
	for top := int64(0); top <= impl.MaxTop; top++ {
		list = append(list, filteredOf(g, 3, top, randomPieces(g, top)).Filtered)
	}
	return list
}

func TestNumbersOutOfRange(t *testing.T) {
	for _, x := range filteredsOfAllTops() {
		top := int64(len(x.Levels)) - 1
		pages := append([]int64{impl.MaxPage + 1, impl.MaxPage + 2}, farNumbers...)
		degrees := append([]int64{top + 1, top + 2}, farNumbers...)
		levels := append([]int64{impl.MaxLevel + 1, impl.MaxLevel + 2}, farNumbers...)
		for _, call := range callsWith2(x) {
			for i, page := range pages {
				name := fmt.Sprintf("%s of %v with %d, %d, %d", call.name, x, page, degrees[i], levels[i])
				if call.r {
					expectCode(t, name, impl.ErrRange, call.run(page, 0, 0))
				}
				if call.n {
					expectCode(t, name, impl.ErrRange, call.run(0, degrees[i], 0))
				}
				if call.q {
					expectCode(t, name, impl.ErrRange, call.run(0, 0, levels[i]))
				}
				if call.r && call.n && call.q {
					expectCode(t, name, impl.ErrRange, call.run(page, degrees[i], levels[i]))
				}
			}
		}
	}
}

func TestNumbersAtTheirLimits(t *testing.T) {
	for _, x := range filteredsOfAllTops() {
		for _, call := range callsWith2(x) {
			for _, r := range []int64{0, impl.MaxPage} {
				for _, n := range []int64{0, int64(len(x.Levels)) - 1} {
					for _, q := range []int64{0, impl.MaxLevel} {
						expectCode(t, fmt.Sprintf("%s of %v with %d, %d, %d", call.name, x, r, n, q), impl.ErrNone, call.run(r, n, q))
					}
				}
			}
		}
	}
}

func TestFunctionsOfChapter2ArePure(t *testing.T) {
	g := &numbers{state: 29}
	for _, k := range knownFiltereds(3) {
		x := withSpare(k.Filtered)
		checkPure(t, "IsFiltered", all(x), func() []any { return all(impl.IsFiltered(x)) })
		for _, call := range callsWith2(x) {
			for range 4 {
				r, n, q := g.below(impl.MaxPage+1), g.below(int64(len(x.Levels))), g.below(impl.MaxLevel+1)
				checkPure(t, call.name, all(x), func() []any { return call.run(r, n, q) })
			}
			checkPure(t, call.name+" with errors", all(x), func() []any { return call.run(-1, -1, -1) })
		}
		checkPure(t, "PartOf everything", all(x), func() []any { return all(impl.PartOf(x, impl.MaxLevel)) })
		c := withSpare(k.Complex)
		checkPure(t, "FlatFiltered", all(c), func() []any { return all(impl.FlatFiltered(c, 2)) })
	}
	for _, x := range noFiltereds() {
		x = withSpare(x)
		checkPure(t, "IsFiltered", all(x), func() []any { return all(impl.IsFiltered(x)) })
	}
}

// TestRowsOfTablesEndAtTheirEnds appends to each row of a table, which must not reach the next one.
func TestRowsOfTablesEndAtTheirEnds(t *testing.T) {
	for _, k := range knownFiltereds(1) {
		for r := range int64(impl.MaxPage + 1) {
			table, code := impl.PageTable(k.Filtered, r)
			expectCode(t, "PageTable", impl.ErrNone, all(table, code))
			want := fmt.Sprint(table)
			for _, row := range table {
				_ = append(row, -77)
			}
			if got := fmt.Sprint(table); got != want {
				t.Errorf("PageTable of %v: %v, after appending %v", k.Filtered, want, got)
			}
		}
	}
}
