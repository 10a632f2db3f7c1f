package tests

import (
	"fmt"
	"math"
	"slices"
	"strings"
	"testing"

	"loop.example/g01273/impl"
)

// given10 has arguments for all functions of chapter 10: an algebra a, another one b, elements u and v of
// a, holes i at n and j at m, and two vectors c and d of page bases of the page r.
type given10 struct {
	a, b       impl.Dga
	u, v       impl.Element
	n, i, m, j int64
	r          int64
	c, d       classPlace
}

// callsWith10 lists a call of each function of chapter 10 that takes no name and returns a code. The degrees,
// levels and numbers of c have the letters x, y and z, those of d have X, Y and Z.
func callsWith10(g given10) []call {
	return []call{
		{"MultiplyElements", "auv", nil, func() []any { return all(impl.MultiplyElements(g.a, g.u, g.v)) }},
		{"DifferentialIn", "au", nil, func() []any { return all(impl.DifferentialIn(g.a, g.u)) }},
		{"IsGradedCommutative", "a", nil, func() []any { return all(impl.IsGradedCommutative(g.a)) }},
		{"TensorDga", "ab", func() bool { return !hasTensorDga(g.a, g.b) }, func() []any { return all(impl.TensorDga(g.a, g.b)) }},
		{"FilteredOf", "a", nil, func() []any { return all(impl.FilteredOf(g.a)) }},
		{"HomologyProduct", "animj", nil, func() []any { return all(impl.HomologyProduct(g.a, g.n, g.i, g.m, g.j)) }},
		{"PageProduct", "arxyzXYZ", nil, func() []any {
			return all(impl.PageProduct(g.a, g.r, g.c.n, g.c.q, g.c.i, g.d.n, g.d.q, g.d.i))
		}},
		{"HomologySizes", "a", nil, func() []any { return all(impl.HomologySizes(g.a)) }},
	}
}

// holePlace returns any degree with holes, and a hole there.
func holePlace(g *numbers, holes []int64) (n int64, i int64) {
	for {
		if n = g.below(int64(len(holes))); holes[n] > 0 {
			return n, g.below(holes[n])
		}
	}
}

// givens10 lists arguments without a flaw.
func givens10() []given10 {
	g := &numbers{state: 137}
	var list []given10
	for _, s := range allSamples(1) {
		r := g.below(impl.MaxPage + 1)
		page := pageBy(s.Dga, r)
		if sumOf(s.holes) == 0 || len(page.places) == 0 {
			continue
		}
		one := given10{a: s.Dga, u: randomElement(g, s.Dga), v: randomElement(g, s.Dga), r: r}
		one.n, one.i = holePlace(g, s.holes)
		one.m, one.j = holePlace(g, s.holes)
		one.c, one.d = page.places[g.below(int64(len(page.places)))], page.places[g.below(int64(len(page.places)))]
		for one.c.q+one.d.q > impl.MaxLevel {
			one.c, one.d = page.places[g.below(int64(len(page.places)))], page.places[g.below(int64(len(page.places)))]
		}
		one.b = sampleOf(s.Prime, "point").Dga
		if others := samples(s.Prime); g.below(2) == 0 {
			one.b = others[g.below(int64(len(others)))].Dga
		}
		list = append(list, one)
	}
	return list
}

// noDgas lists what is no algebra, with flaws of some kinds.
func noDgas(g *numbers) []impl.Dga {
	var list []impl.Dga
	for _, a := range flawedDgas() {
		if g.below(60) == 0 || a.condition != "products behind" && g.below(6) == 0 {
			list = append(list, a.Dga)
		}
	}
	return append(list, impl.Dga{})
}

// noElements lists what is no element of an algebra: with numbers of at least the prime, or behind the Size.
func noElements(a impl.Dga, u impl.Element) []impl.Element {
	var list []impl.Element
	for k := range u {
		for _, number := range []byte{1, byte(a.Prime - 1), byte(a.Prime), byte(a.Prime + 1), 8, 100, 255} {
			if int64(k) >= a.Size || int64(number) >= a.Prime {
				wrong := u
				wrong[k] = number
				list = append(list, wrong)
			}
		}
	}
	return list
}

// flaws10 lists flaws of each kind, kind by kind.
func flaws10(g given10, wrong []impl.Dga) [][]flaw[given10] {
	var first, second, left, right, primes, steep []flaw[given10]
	for _, bad := range wrong {
		first = append(first, flaw[given10]{"a", bad, impl.ErrInvalid, "a", func(g *given10) { g.a = bad }})
		second = append(second, flaw[given10]{"b", bad, impl.ErrInvalid, "b", func(g *given10) { g.b = bad }})
	}
	for _, bad := range noElements(g.a, g.u) {
		left = append(left, flaw[given10]{"u", bad, impl.ErrInvalid, "u", func(g *given10) { g.u = bad }})
		right = append(right, flaw[given10]{"v", bad, impl.ErrInvalid, "v", func(g *given10) { g.v = bad }})
	}
	for _, p := range usualPrimes {
		if p != g.a.Prime {
			for _, s := range samples(p) {
				primes = append(primes, flaw[given10]{"b", s, impl.ErrRange, "ab", func(g *given10) { g.b = s.Dga }})
			}
		}
	}
	for q := impl.MaxLevel - g.c.q + 1; q <= impl.MaxLevel; q++ {
		steep = append(steep, flaw[given10]{"l", q, impl.ErrRange, "yY", func(g *given10) { g.d.q = q }})
	}
	page, top := pageBy(g.a, g.r), int64(len(plainFiltered(g.a).Levels))-1
	sizes := holesByRanks(page.x.Complex)
	sizeAt := func(c classPlace) int64 { return int64(len(page.bases[[2]int64{c.n, c.q}])) }
	return [][]flaw[given10]{
		first, second, left, right, primes, steep,
		numberFlaws("n", 0, top, func(g *given10) *int64 { return &g.n }),
		numberFlaws("i", 0, sizes[g.n]-1, func(g *given10) *int64 { return &g.i }),
		numberFlaws("m", 0, top, func(g *given10) *int64 { return &g.m }),
		numberFlaws("j", 0, sizes[g.m]-1, func(g *given10) *int64 { return &g.j }),
		numberFlaws("r", 0, impl.MaxPage, func(g *given10) *int64 { return &g.r }),
		numberFlaws("x", 0, top, func(g *given10) *int64 { return &g.c.n }),
		numberFlaws("y", 0, impl.MaxLevel, func(g *given10) *int64 { return &g.c.q }),
		numberFlaws("z", 0, sizeAt(g.c)-1, func(g *given10) *int64 { return &g.c.i }),
		numberFlaws("X", 0, top, func(g *given10) *int64 { return &g.d.n }),
		numberFlaws("Y", 0, impl.MaxLevel, func(g *given10) *int64 { return &g.d.q }),
		numberFlaws("Z", 0, sizeAt(g.d)-1, func(g *given10) *int64 { return &g.d.i }),
	}
}

func TestErrorsOfChapter10(t *testing.T) {
	random := &numbers{state: 138}
	wrong := noDgas(random)
	limits, list := 0, givens10()
	for at, g := range list {
		if !hasTensorDga(g.a, g.b) {
			limits++
		}
		kinds := flaws10(g, wrong)
		expectSingleFlaws(t, random, g, callsWith10, kinds, 4)
		if at%12 == 0 {
			expectPairsOfFlaws(t, random, g, callsWith10, kinds, undoNone)
		}
	}
	if limits < 40 || len(list)-limits < 40 {
		t.Errorf("%d of %d tensor products exceed limits", limits, len(list))
	}
}

// TestEachFlawOfAlgebras has each flaw in each function that takes an algebra, with arguments that are wrong
// as well, and with such as are right for another algebra.
func TestEachFlawOfAlgebras(t *testing.T) {
	far := classPlace{math.MaxInt64, math.MinInt64, -1}
	for at, a := range flawedDgas() {
		if strings.HasSuffix(a.condition, " behind") && at%11 > 0 {
			continue
		}
		point := algebraOf(2, []int64{0}, []int64{0}, nil)
		for _, g := range []given10{{a: a.Dga, b: point, u: impl.Element{1}, v: impl.Element{1}}, {a: a.Dga, b: a.Dga, n: -1, i: 8, m: 6, j: math.MinInt64, r: 9, c: far, d: far}} {
			for _, call := range callsWith10(g) {
				expectCode(t, fmt.Sprintf("%s of %v, without %q", call.name, a.Dga, a.condition), impl.ErrInvalid, call.run())
			}
		}
		expectCode(t, fmt.Sprintf("TensorDga of point and %v, without %q", a.Dga, a.condition), impl.ErrInvalid, all(impl.TensorDga(point, a.Dga)))
	}
}

// TestEachNumberOfElements has each number at each place of both elements.
func TestEachNumberOfElements(t *testing.T) {
	for _, p := range usualPrimes {
		for _, s := range samples(p) {
			for k := range int64(8) {
				for number := range int64(256) {
					var u impl.Element
					u[k] = byte(number)
					want := int64(impl.ErrNone)
					if number >= p || k >= s.Size && number > 0 {
						want = impl.ErrInvalid
					}
					if number > 16 && number < 250 && number%16 > 0 {
						continue
					}
					expectCode(t, fmt.Sprintf("DifferentialIn(%v, %v)", s, u), want, all(impl.DifferentialIn(s.Dga, u)))
					expectCode(t, fmt.Sprintf("MultiplyElements(%v, %v, 1)", s, u), want, all(impl.MultiplyElements(s.Dga, u, unitAt(0))))
					expectCode(t, fmt.Sprintf("MultiplyElements(%v, 1, %v)", s, u), want, all(impl.MultiplyElements(s.Dga, unitAt(0), u)))
				}
			}
		}
	}
}

// TestNumbersOfHomologyProducts has all degrees and numbers of holes in and around their ranges.
func TestNumbersOfHomologyProducts(t *testing.T) {
	for _, p := range usualPrimes {
		for _, s := range samples(p) {
			top := int64(len(s.holes)) - 1
			isHole := func(n int64, i int64) bool { return n >= 0 && n <= top && i >= 0 && i < s.holes[n] }
			for n := int64(-1); n <= top+1; n++ {
				for m := int64(-1); m <= top+1; m++ {
					for _, i := range []int64{-1, 0, dimAmong(s.holes, n) - 1, dimAmong(s.holes, n)} {
						for _, j := range []int64{-1, 0, dimAmong(s.holes, m) - 1, dimAmong(s.holes, m)} {
							want := int64(impl.ErrRange)
							if isHole(n, i) && isHole(m, j) {
								want = impl.ErrNone
							}
							expectCode(t, fmt.Sprintf("HomologyProduct(%v, %d, %d, %d, %d)", s, n, i, m, j), want, all(impl.HomologyProduct(s.Dga, n, i, m, j)))
						}
					}
				}
			}
			for _, far := range farNumbers {
				n, i := int64(slices.IndexFunc(s.holes, func(number int64) bool { return number > 0 })), int64(0)
				for _, c := range [][4]int64{{far, i, n, i}, {n, far, n, i}, {n, i, far, i}, {n, i, n, far}, {far, far, far, far}} {
					expectCode(t, fmt.Sprintf("HomologyProduct(%v, %v)", s, c), impl.ErrRange, all(impl.HomologyProduct(s.Dga, c[0], c[1], c[2], c[3])))
				}
			}
		}
	}
}

// dimAmong returns the number of a degree, 0 beyond the degrees.
func dimAmong(list []int64, n int64) int64 {
	if n < 0 || n >= int64(len(list)) {
		return 0
	}
	return list[n]
}

// TestNumbersOfPageProducts has all degrees, levels and numbers in and around their ranges, and levels that
// are too great together alone.
func TestNumbersOfPageProducts(t *testing.T) {
	together, found := 0, 0
	for _, name := range []string{"point", "circle", "disc", "powers of the degree 2", "a torus with a low product", "the unit as a boundary"} {
		s := sampleOf(3, name)
		top := s.Degrees[s.Size-1]
		var tried []classPlace
		for n := int64(-1); n <= top+1; n++ {
			for q := int64(-1); q <= impl.MaxLevel+1; q++ {
				tried = append(tried, classPlace{n, q, -1}, classPlace{n, q, 0}, classPlace{n, q, 1})
			}
		}
		for _, r := range []int64{-1, 0, 1, impl.MaxPage, impl.MaxPage + 1} {
			places := pageBy(s.Dga, r).places
			for _, c := range tried {
				if name != "point" && !slices.Contains(places, c) && (c.n+c.q)%3 > 0 {
					continue
				}
				for _, d := range tried {
					want := int64(impl.ErrRange)
					if slices.Contains(places, c) && slices.Contains(places, d) {
						if found++; c.q+d.q <= impl.MaxLevel {
							want = impl.ErrNone
						} else {
							together++
						}
					}
					expectCode(t, fmt.Sprintf("PageProduct(%v, %d, %v, %v)", s, r, c, d), want, all(impl.PageProduct(s.Dga, r, c.n, c.q, c.i, d.n, d.q, d.i)))
				}
			}
		}
	}
	if together < 6 || found < 100 {
		t.Errorf("%d of %d levels are too great together", together, found)
	}
}

// TestLevelsTogether has vectors of all pairs of levels, on each page.
func TestLevelsTogether(t *testing.T) {
	for q := range int64(impl.MaxLevel + 1) {
		for l := range int64(impl.MaxLevel + 1) {
			a := algebraOf(5, []int64{0, 1, 2}, []int64{0, q, l}, nil)
			for r := range int64(impl.MaxPage + 1) {
				want := int64(impl.ErrNone)
				if q+l > impl.MaxLevel {
					want = impl.ErrRange
				}
				expectCode(t, fmt.Sprintf("PageProduct of the levels %d and %d", q, l), want, all(impl.PageProduct(a, r, 1, q, 0, 2, l, 0)))
				expectCode(t, fmt.Sprintf("PageProduct of the levels %d and %d", l, q), want, all(impl.PageProduct(a, r, 2, l, 0, 1, q, 0)))
			}
		}
	}
}

// TestFarNumbersOfPageProducts has one number far outside of its range, and all of them.
func TestFarNumbersOfPageProducts(t *testing.T) {
	a := namedDga(t, "torus", 5)
	for _, far := range append([]int64{9, 256, 1<<32 + 1, 1 << 62}, farNumbers...) {
		for place := range 8 {
			c := [7]int64{1, 1, 1, 0, 1, 1, 1}
			for at := range c {
				if at == place || place == 7 {
					c[at] = far
				}
			}
			expectCode(t, fmt.Sprintf("PageProduct(torus, %v)", c), impl.ErrRange, all(impl.PageProduct(a, c[0], c[1], c[2], c[3], c[4], c[5], c[6])))
		}
	}
}

// TestAlgebrasWithoutHoles has no holes to multiply, and no vectors of later pages.
func TestAlgebrasWithoutHoles(t *testing.T) {
	for _, p := range usualPrimes {
		for _, name := range []string{"the unit as a boundary", "powers of a source of the unit"} {
			s := sampleOf(p, name)
			for n := range s.holes {
				for m := range s.holes {
					expectCode(t, "HomologyProduct of "+name, impl.ErrRange, all(impl.HomologyProduct(s.Dga, int64(n), 0, int64(m), 0)))
					for q := range int64(impl.MaxLevel + 1) {
						expectCode(t, "PageProduct of "+name, impl.ErrRange, all(impl.PageProduct(s.Dga, impl.MaxPage, int64(n), q, 0, int64(m), 0, 0)))
					}
				}
			}
			expectResults(t, "HomologySizes "+name, all(make([]int64, len(s.holes)), 0), all(impl.HomologySizes(s.Dga)))
		}
	}
}

// TestFunctionsOfChapter10ArePure has arguments with and without flaws. Algebras and elements are values, so
// that only results have slices.
func TestFunctionsOfChapter10ArePure(t *testing.T) {
	random := &numbers{state: 139}
	wrong := noDgas(random)
	check := func(g given10) {
		for _, call := range callsWith10(g) {
			checkPure(t, call.name, all(g.a, g.b, g.u, g.v), call.run)
		}
		checkPure(t, "IsDga", all(g.a), func() []any { return all(impl.IsDga(g.a)) })
	}
	for at, g := range givens10() {
		check(g)
		if at%5 != 0 {
			continue
		}
		for _, list := range flaws10(g, wrong) {
			for _, one := range someOf(random, list, 2) {
				other := g
				one.apply(&other)
				check(other)
			}
		}
	}
	for _, p := range []int64{2, 3, 5, 7, 4, 0} {
		for _, name := range []string{"point", "circle", "torus", "disc", "", "other"} {
			checkPure(t, "NamedDga", all(name, p), func() []any { return all(impl.NamedDga(name, p)) })
		}
	}
}

// TestTheSameAnswersAtOnce asks the same of several goroutines at once.
func TestTheSameAnswersAtOnce(t *testing.T) {
	list := givens10()
	ask := func() string {
		answers := ""
		for _, g := range list[:24] {
			for _, call := range callsWith10(g) {
				answers += fmt.Sprint(call.run()) + fmt.Sprint(impl.IsDga(g.a)) + "\n"
			}
		}
		return answers
	}
	want, answers := ask(), make(chan string)
	for range 8 {
		go func() { answers <- ask() }()
	}
	for range 8 {
		if got := <-answers; got != want {
			t.Errorf("%s, and at once %s", want, got)
		}
	}
}
