package tests

import (
	"fmt"
	"math"
	"slices"
	"testing"

	"loop.example/g01273/impl"
)

// given9 has arguments for all functions of chapter 9: a degree n and levels q and s of a filtered complex
// x of a number of bars, two lists of bars a and b, a page r, a degree m of bars, a prime p and a top.
type given9 struct {
	x       impl.Filtered
	bars    int
	n, q, s int64
	a, b    []impl.Bar
	r, m    int64
	p, top  int64
}

// callsWith9 lists a call of each function of chapter 9 that takes no text and returns a code. There is t
// for the top.
func callsWith9(g given9) []call {
	return []call{
		{"RankBetween", "xnqs", nil, func() []any { return all(impl.RankBetween(g.x, g.n, g.q, g.s)) }},
		{"LevelNumbers", "xq", nil, func() []any { return all(impl.LevelNumbers(g.x, g.q)) }},
		{"BarsOf", "x", func() bool { return g.bars > impl.MaxBars }, func() []any { return all(impl.BarsOf(g.x)) }},
		{"BarPage", "arqm", nil, func() []any { return all(impl.BarPage(g.a, g.r, g.m, g.q)) }},
		{"ComplexOfBars", "apt", func() bool { return isTooWide(plainComplexOfBars(g.p, g.top, g.a)) }, func() []any { return all(impl.ComplexOfBars(g.p, g.top, g.a)) }},
		{"CountLasting", "am", nil, func() []any { return all(impl.CountLasting(g.a, g.m)) }},
		{"TotalLength", "a", nil, func() []any { return all(impl.TotalLength(g.a)) }},
		{"LongestBar", "a", nil, func() []any { return all(impl.LongestBar(g.a)) }},
		{"JoinBars", "ab", func() bool { return len(g.a)+len(g.b) > impl.MaxBars }, func() []any { return all(impl.JoinBars(g.a, g.b)) }},
		{"BarsText", "a", nil, func() []any { return all(impl.BarsText(g.a)) }},
	}
}

// givens9 lists arguments without a flaw: lists with bars that end, of few bars and of many.
func givens9() []given9 {
	g := &numbers{state: 125}
	var list []given9
	add := func(x impl.Filtered, bars int, a []impl.Bar, b []impl.Bar) {
		s := g.below(impl.MaxLevel + 1)
		n, q, top := g.below(int64(len(x.Levels))), g.below(s+1), leastPlainTop(a)
		list = append(list, given9{x, bars, n, q, s, a, b, g.below(impl.MaxPage + 1), g.below(impl.MaxTop + 1), usualPrimes[g.below(4)], top})
	}
	for _, k := range knownFiltereds(1) {
		few := []impl.Bar{bar(0, 0, 3), bar(1, 2, -1), bar(2, 1, 1), bar(2, 1, 1)}
		many := inOrder(append(randomBars(g, 3, 12), bar(2, 3, 4))...)
		add(k.Filtered, len(k.Pieces), few, randomBars(g, impl.MaxTop, g.below(12)))
		add(k.Filtered, len(k.Pieces), many, randomBars(g, 2, 10+g.below(4)))
	}
	wide := withLevels(flatOf(3, 8, 8, 8, 0, 8), make([]int64, 8), make([]int64, 8), make([]int64, 8), nil, make([]int64, 8))
	full := slices.Concat(slices.Repeat([]impl.Bar{bar(0, 0, 1)}, 8), slices.Repeat([]impl.Bar{bar(2, 2, 5)}, 8), slices.Repeat([]impl.Bar{bar(4, 5, 5)}, 8))
	add(wide, 32, full, full[:1])
	add(wide, 32, full, nil)
	add(wide, 32, slices.Repeat([]impl.Bar{bar(4, 0, 0)}, impl.MaxBars), full)
	add(wide, 32, []impl.Bar{bar(0, 0, 0)}, []impl.Bar{bar(5, 5, 5)})
	return list
}

// noBars lists what arises from a list of bars that is not empty, and is none: bars out of order, with a
// number out of range, and too many.
func noBars(list []impl.Bar) [][]impl.Bar {
	var wrong [][]impl.Bar
	add := func(other []impl.Bar) {
		if !arePlainBars(other) {
			wrong = append(wrong, other)
		}
	}
	for i := range list {
		for _, number := range append([]int64{6, 7}, farNumbers...) {
			for field := range 3 {
				other := slices.Clone(list)
				*[]*int64{&other[i].Degree, &other[i].Birth, &other[i].Death}[field] = number
				add(other)
			}
		}
		for _, one := range []impl.Bar{bar(0, 1, 0), bar(5, 5, 4), bar(5, 5, 0), bar(2, 3, 2), bar(1, 1, -1), bar(3, 3, 5)} {
			add(slices.Insert(slices.Clone(list), i, one))
		}
		for j := range i {
			turned := slices.Clone(list)
			turned[i], turned[j] = turned[j], turned[i]
			add(turned)
		}
	}
	add(slices.Repeat(list[:1], impl.MaxBars+1))
	add(slices.Repeat(list[len(list)-1:], 1000))
	add(slices.Concat(slices.Repeat(list[:1], impl.MaxBars+1-len(list)), list))
	return wrong
}

// barFlaws lists flaws of the list of bars at a place.
func barFlaws(letter string, list []impl.Bar, place func(*given9) *[]impl.Bar) []flaw[given9] {
	var flaws []flaw[given9]
	if len(list) == 0 {
		list = []impl.Bar{bar(0, 0, 0)}
	}
	for _, bad := range noBars(list) {
		flaws = append(flaws, flaw[given9]{letter, bad, impl.ErrRange, letter, func(g *given9) { *place(g) = bad }})
	}
	return flaws
}

// flaws9 lists flaws of each kind, kind by kind.
func flaws9(g given9, wrong []impl.Filtered) [][]flaw[given9] {
	var filtered, apart, tops []flaw[given9]
	for _, bad := range wrong {
		filtered = append(filtered, flaw[given9]{"x", bad, impl.ErrInvalid, "x", func(g *given9) { g.x = bad }})
	}
	for q := g.s + 1; q <= impl.MaxLevel; q++ {
		apart = append(apart, flaw[given9]{"q", q, impl.ErrRange, "qs", func(g *given9) { g.q = q }})
	}
	for top := range g.top {
		tops = append(tops, flaw[given9]{"t", top, impl.ErrRange, "t", func(g *given9) { g.top = top }})
	}
	return [][]flaw[given9]{
		filtered,
		numberFlaws("n", 0, int64(len(g.x.Levels))-1, func(g *given9) *int64 { return &g.n }),
		numberFlaws("q", 0, impl.MaxLevel, func(g *given9) *int64 { return &g.q }),
		numberFlaws("s", g.q, impl.MaxLevel, func(g *given9) *int64 { return &g.s }),
		apart,
		barFlaws("a", g.a, func(g *given9) *[]impl.Bar { return &g.a }),
		barFlaws("b", g.b, func(g *given9) *[]impl.Bar { return &g.b }),
		numberFlaws("r", 0, impl.MaxPage, func(g *given9) *int64 { return &g.r }),
		numberFlaws("m", 0, impl.MaxTop, func(g *given9) *int64 { return &g.m }),
		primeFlaws("p", func(g *given9) *int64 { return &g.p }),
		numberFlaws("t", g.top, impl.MaxTop, func(g *given9) *int64 { return &g.top }),
		tops,
	}
}

func TestErrorsOfChapter9(t *testing.T) {
	random := &numbers{state: 126}
	wrong := noFiltereds()
	limits := map[string]int{}
	for at, g := range givens9() {
		for _, call := range callsWith9(g) {
			if call.code() == impl.ErrLimit {
				limits[call.name]++
			}
		}
		kinds := flaws9(g, wrong)
		expectSingleFlaws(t, random, g, callsWith9, kinds, 7)
		if at%5 == 0 {
			expectPairsOfFlaws(t, random, g, callsWith9, kinds, undoNone)
		}
	}
	if limits["BarsOf"] < 4 || limits["ComplexOfBars"] < 4 || limits["JoinBars"] < 8 {
		t.Errorf("%v calls beyond limits", limits)
	}
}

// TestEachErrorOfChapter9 has all flaws of some arguments, one by one.
func TestEachErrorOfChapter9(t *testing.T) {
	list := givens9()
	for _, g := range list[8:10] {
		for _, flaws := range flaws9(g, noFiltereds()) {
			for _, one := range flaws {
				expectFlaws(t, g, callsWith9, one)
			}
		}
	}
}

// TestWhatIsNotFilteredForBars has no filtered complex, and nothing else right either.
func TestWhatIsNotFilteredForBars(t *testing.T) {
	for _, x := range noFiltereds() {
		for _, number := range []int64{0, 1, 5, -1, 6, math.MinInt64, math.MaxInt64} {
			for _, other := range []int64{0, -1, math.MinInt64} {
				for _, call := range callsWith9(given9{x: x, n: number, q: number, s: other})[:3] {
					expectCode(t, fmt.Sprintf("%s of %v with %d and %d", call.name, x, number, other), impl.ErrInvalid, call.run())
				}
			}
		}
	}
}

// TestLevelsOutOfOrder has all pairs of levels around their ranges, in each degree.
func TestLevelsOutOfOrder(t *testing.T) {
	for _, x := range filteredsOfAllTops() {
		top := int64(len(x.Levels)) - 1
		for n := int64(-1); n <= top+1; n++ {
			for q := int64(-2); q <= impl.MaxLevel+2; q++ {
				for s := int64(-2); s <= impl.MaxLevel+2; s++ {
					want := int64(impl.ErrRange)
					if n >= 0 && n <= top && q >= 0 && q <= s && s <= impl.MaxLevel {
						want = impl.ErrNone
					}
					expectCode(t, fmt.Sprintf("RankBetween(%v, %d, %d, %d)", x, n, q, s), want, all(impl.RankBetween(x, n, q, s)))
				}
			}
		}
	}
}

// TestListsThatAreNoBars has lists that are none in all functions that take one, with all other arguments
// wrong, right, or beyond limits.
func TestListsThatAreNoBars(t *testing.T) {
	full := slices.Repeat([]impl.Bar{bar(0, 0, -1)}, impl.MaxBars)
	for _, list := range [][]impl.Bar{{bar(0, 0, -1)}, {bar(0, 0, -1), bar(0, 5, -1), bar(3, 2, -1)}, {bar(1, 2, 3), bar(4, 0, 0)}, full} {
		for _, bad := range noBars(list) {
			for _, number := range []int64{0, 2, 5, -1, 9, math.MaxInt64} {
				for _, g := range []given9{{a: bad, b: full, r: number, m: number, q: number, p: number, top: number}, {a: bad, b: bad, r: 1, m: 1, q: number, p: 3, top: 5}} {
					for _, call := range callsWith9(g)[3:] {
						expectCode(t, fmt.Sprintf("%s of %v with %d", call.name, bad, number), impl.ErrRange, call.run())
					}
				}
			}
			for _, good := range [][]impl.Bar{nil, list, full} { // also where there would be too many together
				expectCode(t, fmt.Sprintf("JoinBars(%v, %v)", bad, good), impl.ErrRange, all(impl.JoinBars(bad, good)))
				expectCode(t, fmt.Sprintf("JoinBars(%v, %v)", good, bad), impl.ErrRange, all(impl.JoinBars(good, bad)))
			}
		}
	}
}

// TestArgumentsOfPagesAndCounts has lists without bars, so that nothing else than the numbers can be wrong.
func TestArgumentsOfPagesAndCounts(t *testing.T) {
	for _, list := range [][]impl.Bar{nil, {bar(0, 0, -1)}, {bar(4, 2, 5), bar(5, 5, -1)}} {
		for _, r := range []int64{0, impl.MaxPage} {
			for _, n := range []int64{0, impl.MaxTop} {
				for _, q := range []int64{0, impl.MaxLevel} {
					expectCode(t, "BarPage", impl.ErrNone, all(impl.BarPage(list, r, n, q)))
					for _, bad := range append([]int64{impl.MaxPage + 1}, farNumbers...) {
						expectCode(t, fmt.Sprint("BarPage of the page ", bad), impl.ErrRange, all(impl.BarPage(list, bad, n, q)))
						expectCode(t, fmt.Sprint("BarPage of no page, degree and level ", bad), impl.ErrRange, all(impl.BarPage(list, bad, bad, bad)))
					}
					for _, bad := range append([]int64{6}, farNumbers...) {
						expectCode(t, fmt.Sprint("BarPage at the degree ", bad), impl.ErrRange, all(impl.BarPage(list, r, bad, q)))
						expectCode(t, fmt.Sprint("BarPage at the level ", bad), impl.ErrRange, all(impl.BarPage(list, r, n, bad)))
						expectCode(t, fmt.Sprint("CountLasting at the degree ", bad), impl.ErrRange, all(impl.CountLasting(list, bad)))
					}
				}
			}
		}
	}
}

// TestComplexesOfBarsOutOfRange has numbers that are no primes, and tops out of range, also where a
// dimension would be too great.
func TestComplexesOfBarsOutOfRange(t *testing.T) {
	for _, list := range [][]impl.Bar{nil, {bar(0, 0, -1)}, {bar(0, 0, 5)}, {bar(3, 1, -1)}, slices.Repeat([]impl.Bar{bar(0, 0, -1)}, 9), slices.Repeat([]impl.Bar{bar(2, 0, 1)}, 9)} {
		least := leastPlainTop(list)
		for p := int64(-8); p <= 60; p++ {
			for top := int64(-2); top <= impl.MaxTop+2; top++ {
				want := int64(impl.ErrNone)
				if !slices.Contains(usualPrimes, p) || top < least || top > impl.MaxTop {
					want = impl.ErrRange
				} else if len(list) > impl.MaxDim {
					want = impl.ErrLimit
				}
				expectCode(t, fmt.Sprintf("ComplexOfBars(%d, %d, %v)", p, top, list), want, all(impl.ComplexOfBars(p, top, list)))
			}
		}
		for _, far := range append([]int64{1<<32 + 2, 1<<32 + 5}, farNumbers...) {
			expectCode(t, fmt.Sprint("ComplexOfBars modulo ", far), impl.ErrRange, all(impl.ComplexOfBars(far, 5, list)))
			expectCode(t, fmt.Sprint("ComplexOfBars of the top ", far), impl.ErrRange, all(impl.ComplexOfBars(2, far, list)))
		}
	}
}

func TestFunctionsOfChapter9ArePure(t *testing.T) {
	random := &numbers{state: 127}
	check := func(g given9) {
		g.x, g.a, g.b = withSpare(g.x), withSpare(g.a), withSpare(g.b)
		args := all(g.x, g.a, g.b)
		for _, call := range callsWith9(g) {
			checkPure(t, call.name, args, call.run)
		}
		checkPure(t, "AreBars", args, func() []any { return all(impl.AreBars(g.a)) })
	}
	wrong := noFiltereds()
	for at, g := range givens9() {
		check(g)
		check(given9{x: g.x, a: g.b, b: g.b, p: g.p, top: impl.MaxTop, r: g.r, s: impl.MaxLevel})
		if at%4 != 0 {
			continue
		}
		for _, list := range flaws9(g, wrong) {
			for _, one := range someOf(random, list, 2) {
				other := g
				one.apply(&other)
				check(other)
			}
		}
	}
	for _, text := range []string{"", "0:0-", "0:0-3,1:2-,2:1-1,2:1-1", "0:0", "1:0-,0:0-"} {
		checkPure(t, "ParseBars", all(text), func() []any { return all(impl.ParseBars(text)) })
	}
}

// TestJoinedListsAreNew has the same list twice, and lists that stand one behind the other.
func TestJoinedListsAreNew(t *testing.T) {
	whole := withSpare([]impl.Bar{bar(0, 0, 1), bar(0, 3, -1), bar(1, 1, 1), bar(4, 0, -1)})
	for at := range len(whole) + 1 {
		a, b := whole[:at], whole[at:]
		for _, lists := range [][2][]impl.Bar{{a, b}, {b, a}, {a, a}, {b, b}, {whole, nil}, {nil, whole}} {
			want := inOrder(slices.Concat(lists[0], lists[1])...)
			checkPure(t, "JoinBars", all(whole, lists[0], lists[1]), func() []any { return all(impl.JoinBars(lists[0], lists[1])) })
			expectResults(t, "JoinBars", all(want, 0), all(impl.JoinBars(lists[0], lists[1])))
		}
	}
}
