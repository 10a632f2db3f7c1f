package tests

import (
	"fmt"
	"math"
	"slices"
	"testing"

	"loop.example/g01273/impl"
)

// flawed is what is no differential graded algebra, with the only condition that does not hold.
type flawed struct {
	impl.Dga
	condition string
}

// with returns a copy of an algebra with a change.
func with(a impl.Dga, change func(a *impl.Dga)) impl.Dga {
	change(&a)
	return a
}

// flawedGrades lists what has wrong degrees and levels alone, or a wrong Prime or Size.
func flawedGrades() []flawed {
	var list []flawed
	flat := func(p int64, degrees []int64, levels []int64) impl.Dga { return algebraOf(p, degrees, levels, nil) }
	for _, size := range append([]int64{0, impl.MaxElements + 1, impl.MaxElements + 2, 256, 257, 1<<32 + 1}, farNumbers...) {
		list = append(list, flawed{impl.Dga{Prime: 2, Size: size}, "size"})
		list = append(list, flawed{with(flat(3, make([]int64, 8), make([]int64, 8)), func(a *impl.Dga) { a.Size = size }), "size"})
	}
	for _, p := range append([]int64{0, 4, 6, 8, 9, 10, 11, 13, 25, 258, 1<<32 + 2}, farNumbers...) {
		list = append(list, flawed{with(flat(2, []int64{0}, []int64{0}), func(a *impl.Dga) { a.Prime = p }), "prime"})
		list = append(list, flawed{with(flat(2, []int64{0, 1}, []int64{0, 1}), func(a *impl.Dga) { a.Prime = p }), "prime"})
	}
	for _, p := range usualPrimes {
		for _, far := range append([]int64{6, 7, 256, 257, 1 << 32, 1<<32 + 1}, farNumbers...) {
			list = append(list, flawed{flat(p, []int64{0, 0}, []int64{0, far}), "levels"}, flawed{flat(p, []int64{0, 1, 1}, []int64{0, far, 1}), "levels"})
			if far > 0 {
				list = append(list, flawed{flat(p, []int64{0, far}, []int64{0, 0}), "degrees"}, flawed{flat(p, []int64{0, 1, far}, []int64{0, 0, 5}), "degrees"})
			}
		}
		list = append(list,
			flawed{flat(p, []int64{0, 1, 0}, []int64{0, 0, 0}), "order"},
			flawed{flat(p, []int64{0, 5, 4}, []int64{0, 5, 5}), "order"},
			flawed{flat(p, []int64{0, 0, 1, 2, 3, 4, 5, 4}, make([]int64, 8)), "order"},
			flawed{flat(p, []int64{0, 2, 1, 3}, []int64{0, 1, 2, 3}), "order"},
			flawed{flat(p, []int64{0}, []int64{1}), "first level"},
			flawed{flat(p, []int64{0}, []int64{5}), "first level"},
			flawed{flat(p, []int64{0, 1}, []int64{2, 3}), "first level"},
			flawed{flat(p, []int64{0, 0}, []int64{1, 0}), "first level"})
	}
	return list
}

// flawedNumbers lists what has numbers of at least the prime alone, or numbers behind the Size.
func flawedNumbers(p int64) []flawed {
	var list []flawed
	add := func(condition string, a impl.Dga, change func(a *impl.Dga)) {
		list = append(list, flawed{with(a, change), condition})
	}
	torus, disc := sampleOf(p, "torus").Dga, sampleOf(p, "disc").Dga
	for times := byte(1); times < 4; times++ {
		more := times * byte(p)
		add("numbers of differentials", disc, func(a *impl.Dga) { a.Diff[2][1] += more })
		add("numbers of products", disc, func(a *impl.Dga) { a.Table[2][1][3] += more })
		add("numbers of products", torus, func(a *impl.Dga) { a.Table[2][1][3] += more })
		add("numbers of products", torus, func(a *impl.Dga) { a.Table[0][3][3] += more })
		add("numbers of products", torus, func(a *impl.Dga) { a.Table[0][0][0] += more })
	}
	for _, s := range append(namedByHand(p), sampleOf(p, "powers of a source of the unit")) {
		for k := s.Size; k < 8; k++ {
			for _, number := range append([]int64{1, 5, 6, 256, 1 << 32}, farNumbers...) {
				add("degrees behind", s.Dga, func(a *impl.Dga) { a.Degrees[k] = number })
				add("levels behind", s.Dga, func(a *impl.Dga) { a.Levels[k] = number })
			}
			for _, number := range []byte{1, byte(p)} {
				for i := range int64(8) {
					add("differentials behind", s.Dga, func(a *impl.Dga) { a.Diff[i][k] = number })
					add("differentials behind", s.Dga, func(a *impl.Dga) { a.Diff[k][i] = number })
					for j := range int64(8) {
						add("products behind", s.Dga, func(a *impl.Dga) { a.Table[i][j][k] = number })
						add("products behind", s.Dga, func(a *impl.Dga) { a.Table[i][k][j] = number })
						add("products behind", s.Dga, func(a *impl.Dga) { a.Table[k][i][j] = number })
					}
				}
			}
		}
	}
	return list
}

// flawedTables lists what has differentials or products of wrong degrees or levels alone, or does not keep
// one of the laws.
func flawedTables(p int64) []flawed {
	var list []flawed
	add := func(condition string, a impl.Dga) { list = append(list, flawed{a, condition}) }
	zeros := make([]int64, 8)
	for number := int64(1); number < p; number++ {
		add("degrees of differentials", algebraOf(p, []int64{0, 1, 1}, zeros[:3], nil, step{2, 1, number}))
		add("degrees of differentials", algebraOf(p, []int64{0, 1, 1}, zeros[:3], nil, step{1, 2, number}))
		add("degrees of differentials", algebraOf(p, []int64{0, 1, 3}, zeros[:3], nil, step{2, 1, number}))
		add("degrees of differentials", algebraOf(p, []int64{0, 1, 2}, zeros[:3], nil, step{1, 2, number}))
		add("degrees of differentials", algebraOf(p, []int64{0, 0, 0}, zeros[:3], nil, step{2, 1, number}))
		add("levels of differentials", algebraOf(p, []int64{0, 1, 2}, []int64{0, 1, 0}, nil, step{2, 1, number}))
		add("levels of differentials", algebraOf(p, []int64{0, 1, 1, 2}, []int64{0, 4, 5, 4}, nil, step{3, 1, number}, step{3, 2, 1}))
		add("levels of differentials", algebraOf(p, []int64{0, 4, 5}, []int64{0, 5, 4}, nil, step{2, 1, number}))
		add("degrees of products", algebraOf(p, []int64{0, 1, 1}, zeros[:3], []product{{1, 1, 2, number}}))
		add("degrees of products", algebraOf(p, []int64{0, 1, 3}, zeros[:3], []product{{1, 1, 2, number}}))
		add("degrees of products", algebraOf(p, []int64{0, 3, 3, 5}, zeros[:4], []product{{1, 2, 3, number}}))
		add("degrees of products", algebraOf(p, []int64{0, 0, 1}, zeros[:3], []product{{1, 1, 2, number}}))
		add("levels of products", algebraOf(p, []int64{0, 1, 2}, []int64{0, 1, 3}, []product{{1, 1, 2, number}}))
		add("levels of products", algebraOf(p, []int64{0, 0, 0}, []int64{0, 0, 1}, []product{{1, 1, 2, number}}))
		add("levels of products", algebraOf(p, []int64{0, 1, 1, 2}, []int64{0, 2, 2, 5}, []product{{1, 2, 3, number}}))
		add("associative", algebraOf(p, []int64{0, 1, 2, 3}, zeros[:4], []product{{1, 1, 2, 1}, {1, 2, 3, number}}))
		add("associative", algebraOf(p, []int64{0, 1, 2, 3}, zeros[:4], []product{{1, 1, 2, 1}, {2, 1, 3, number}}))
		add("associative", algebraOf(p, []int64{0, 0, 0}, zeros[:3], []product{{1, 1, 2, number}, {2, 2, 1, 1}}))
		add("differential twice", algebraOf(p, []int64{0, 1, 2, 3}, zeros[:4], nil, step{3, 2, number}, step{2, 1, 1}))
		add("differential twice", algebraOf(p, []int64{0, 3, 4, 5}, zeros[:4], nil, step{3, 2, 1}, step{2, 1, number}))
		// d(x x) = d x x - x d x is 0
		add("rule", algebraOf(p, []int64{0, 1, 1, 2}, zeros[:4], []product{{1, 1, 3, 1}}, step{3, 2, number}))
		// d(x y) = d x y - x d y with d x = t, t y = 0
		add("rule", algebraOf(p, []int64{0, 0, 1, 1, 1, 2}, zeros[:6], []product{{1, 3, 4, number}}, step{2, 1, 1}))
		add("rule", algebraOf(p, []int64{0, 0, 1, 1, 1, 2}, zeros[:6], []product{{3, 1, 4, number}}, step{2, 1, 1}))
		// a differential that leads to the unit leads a vector of which all products are 0 to none
		add("rule", algebraOf(p, []int64{0, 1, 5}, zeros[:3], nil, step{1, 0, number}))
	}
	for i := range int64(3) {
		add("left unit", with(algebraOf(p, []int64{0, 1, 1, 2}, zeros[:4], nil), func(a *impl.Dga) { a.Table[0][i+1][i+1] = 0 }))
		add("right unit", with(algebraOf(p, []int64{0, 1, 1, 2}, zeros[:4], nil), func(a *impl.Dga) { a.Table[i+1][0][i+1] = 0 }))
	}
	add("left unit", with(algebraOf(p, []int64{0, 1, 1}, zeros[:3], nil), func(a *impl.Dga) { a.Table[0][2] = impl.Element{0, 1} }))
	add("right unit", with(algebraOf(p, []int64{0, 1, 1}, zeros[:3], nil), func(a *impl.Dga) { a.Table[2][0] = impl.Element{0, 1} }))
	return list
}

// flawedDgas lists what is no differential graded algebra by one condition alone.
func flawedDgas() []flawed {
	list := flawedGrades()
	for _, p := range usualPrimes {
		list = append(list, append(flawedTables(p), flawedNumbers(p)...)...)
	}
	return list
}

// TestEachConditionAlone has each condition broken alone. Only the degree of e(0) cannot be: a unit of
// another degree has a product of a wrong one.
func TestEachConditionAlone(t *testing.T) {
	counts := map[string]int{}
	for _, a := range flawedDgas() {
		if broken := brokenConditions(a.Dga); fmt.Sprint(broken) != fmt.Sprint([]string{a.condition}) {
			t.Errorf("%v do not hold, want %q: %v", broken, a.condition, a.Dga)
		}
		if impl.IsDga(a.Dga) {
			t.Errorf("IsDga(%v), without %q", a.Dga, a.condition)
		}
		counts[a.condition]++
	}
	for _, c := range slices.Concat(gradeConditions(), tableConditions(), []condition{{name: "size"}}) {
		if counts[c.name] < 4 && c.name != "first degree" {
			t.Errorf("%d are flawed by %q alone", counts[c.name], c.name)
		}
	}
	for n := int64(1); n <= impl.MaxTop; n++ {
		if impl.IsDga(algebraOf(2, []int64{n}, []int64{0}, nil)) || impl.IsDga(algebraOf(3, []int64{n, n}, []int64{0, 0}, nil)) {
			t.Errorf("IsDga of a unit of the degree %d", n)
		}
	}
}

func TestWhatIsNoAlgebraAtAll(t *testing.T) {
	var full impl.Dga
	for i := range 8 {
		full.Degrees[i], full.Levels[i] = math.MaxInt64, math.MinInt64
		for j := range 8 {
			full.Diff[i][j] = 255
			for k := range 8 {
				full.Table[i][j][k] = 255
			}
		}
	}
	for _, p := range append([]int64{0, 1, 2, 3, 5, 7}, farNumbers...) {
		for _, size := range append([]int64{0, 1, 2, 7, 8, 9}, farNumbers...) {
			for _, a := range []impl.Dga{{}, full} {
				a.Prime, a.Size = p, size
				if impl.IsDga(a) {
					t.Errorf("IsDga(%v)", a)
				}
			}
		}
	}
}

// checkDga holds IsDga against the conditions, and reports its result.
func checkDga(t *testing.T, a impl.Dga) bool {
	t.Helper()
	got := impl.IsDga(a)
	if got != plainIsDga(a) {
		t.Errorf("IsDga(%v) = %v, but %v do not hold", a, got, brokenConditions(a))
	}
	return got
}

// TestAllSmallAlgebras has all tables of two basis elements modulo 2, of different degrees and levels.
func TestAllSmallAlgebras(t *testing.T) {
	found := map[bool]int{}
	for _, degrees := range [][]int64{{0, 0}, {0, 1}, {0, 2}} {
		for _, levels := range [][]int64{{0, 0}, {0, 1}, {1, 0}} {
			for _, row := range allRows(2, 12) {
				a := impl.Dga{Prime: 2, Size: 2, Degrees: [8]int64{degrees[0], degrees[1]}, Levels: [8]int64{levels[0], levels[1]}}
				for at, number := range row {
					if at < 4 {
						a.Diff[at/2][at%2] = byte(number)
					} else {
						a.Table[at/4-1][at/2%2][at%2] = byte(number)
					}
				}
				found[checkDga(t, a)]++
			}
		}
	}
	// e(1) e(1) in the degree 0 is one of four elements, of levels that do not matter; d e(1) of the degree 1 is 0 or 1
	if found[true] != 2*4+2*2+2*1 {
		t.Errorf("%d of %d are algebras", found[true], found[false])
	}
}

// TestAlgebrasOfThree has any products of two basis elements beside the unit, and any differentials.
func TestAlgebrasOfThree(t *testing.T) {
	g := &numbers{state: 135}
	found := map[bool]int{}
	for _, p := range []int64{2, 3} {
		for _, degrees := range [][]int64{{0, 0, 0}, {0, 0, 1}, {0, 1, 1}, {0, 1, 2}, {0, 2, 3}, {0, 2, 4}} {
			for range 2500 {
				a := algebraOf(p, degrees, []int64{0, g.below(3), g.below(3)}, nil)
				for i := 1; i < 3; i++ {
					for k := range 3 {
						if degrees[k]+1 == degrees[i] || g.below(40) == 0 {
							a.Diff[i][k] = byte(g.below(p))
						}
						for j := 1; j < 3; j++ {
							if degrees[i]+degrees[j] == degrees[k] || g.below(40) == 0 {
								a.Table[i][j][k] = byte(g.below(p))
							}
						}
					}
				}
				found[checkDga(t, a)]++
			}
		}
	}
	if found[true] < 4000 || found[false] < 4000 {
		t.Errorf("%v algebras of three basis elements", found)
	}
}

// TestAlgebrasWithOneOtherNumber changes each number of algebras.
func TestAlgebrasWithOneOtherNumber(t *testing.T) {
	found := map[bool]int{}
	try := func(a impl.Dga) { found[checkDga(t, a)]++ }
	for _, p := range usualPrimes {
		for at, s := range slices.Concat(samples(p), mixedSamples(p)) {
			if p > 3 && at%5 != 0 {
				continue
			}
			for _, number := range []int64{-1, 0, 1, 2, 3, 4, 5, 6, 7, 8, 9} {
				try(with(s.Dga, func(a *impl.Dga) { a.Prime = number }))
				try(with(s.Dga, func(a *impl.Dga) { a.Size = number }))
				for i := range 8 {
					try(with(s.Dga, func(a *impl.Dga) { a.Degrees[i] = number }))
					try(with(s.Dga, func(a *impl.Dga) { a.Levels[i] = number }))
				}
			}
			for i := range 8 {
				for k := range 8 {
					for _, number := range []byte{1, byte(p)} {
						try(with(s.Dga, func(a *impl.Dga) { a.Diff[i][k] += number }))
						for j := range 8 {
							if at%2 == 0 || i == j || max(i, j, k) < int(s.Size) {
								try(with(s.Dga, func(a *impl.Dga) { a.Table[i][j][k] += number }))
							}
						}
					}
				}
			}
		}
	}
	if found[true] < 2500 || found[false] < 50000 {
		t.Errorf("%v algebras with one other number", found)
	}
}
