package tests

import (
	"fmt"
	"slices"
	"testing"

	"loop.example/g01273/impl"
)

// given4 has arguments for all functions of chapter 4: families f and g from x to y, next from y to
// z, and h of the shift 1 from x to y, and a vector v of the degree n of x.
type given4 struct {
	x, y, z       impl.Complex
	f, g, next, h tables
	n             int64
	v             []int64
	k, s          int64
}

// callsWith4 lists a call of each function of chapter 4. The family next is told by t.
func callsWith4(a given4) []call {
	exceeds := func() bool { return !hasCone(a.x, a.y) }
	return []call{
		{"IsChainMap", "xyf", nil, func() []any { return all(impl.IsChainMap(a.x, a.y, a.f)) }},
		{"IdentityMap", "x", nil, func() []any { return all(impl.IdentityMap(a.x)) }},
		{"ApplyFamily", "xyfnv", nil, func() []any { return all(impl.ApplyFamily(a.x, a.y, a.f, a.n, a.v)) }},
		{"ComposeFamilies", "xyzft", nil, func() []any { return all(impl.ComposeFamilies(a.x, a.y, a.z, a.f, a.next)) }},
		{"AddFamilies", "xyfgk", nil, func() []any { return all(impl.AddFamilies(a.x, a.y, a.f, a.g, a.k)) }},
		{"ConeOf", "xyfc", exceeds, func() []any { return all(impl.ConeOf(a.x, a.y, a.f)) }},
		{"InducedRank", "xyfcn", nil, func() []any { return all(impl.InducedRank(a.x, a.y, a.f, a.n)) }},
		{"IsQuasi", "xyfc", nil, func() []any { return all(impl.IsQuasi(a.x, a.y, a.f)) }},
		{"LongSequence", "xyfc", nil, func() []any { return all(impl.LongSequence(a.x, a.y, a.f)) }},
		{"IsHomotopy", "xyfgch", nil, func() []any { return all(impl.IsHomotopy(a.x, a.y, a.f, a.g, a.h)) }},
		{"AreHomotopic", "xyfgc", nil, func() []any { return all(impl.AreHomotopic(a.x, a.y, a.f, a.g)) }},
		{"ZeroFamily", "xys", nil, func() []any { return all(impl.ZeroFamily(a.x, a.y, a.s)) }},
	}
}

// givenOf returns arguments without a flaw, made from a known map.
func givenOf(g *numbers, m knownMap) given4 {
	next := movedFrom(g, m.Y)
	x, y := m.X.Complex, m.Y.Complex
	h := randomFamily(g, x, y, 1)
	n := g.below(int64(len(x.Dims)))
	return given4{
		x: x, y: y, z: next.Y.Complex, f: m.F, g: plainSum(x, y, m.F, plainNull(x, y, h), x.Prime-1), next: next.F, h: h,
		n: n, v: g.row(x.Prime, x.Dims[n]), k: g.below(x.Prime), s: g.below(2),
	}
}

// endFlaws lists flaws of the complex at a place: what is no complex, and what does not fit to the
// other ones.
func endFlaws(letter string, x impl.Complex, place func(*given4) *impl.Complex, wrong []impl.Complex) []flaw[given4] {
	others := slices.Concat(otherPrimes(x), otherTops(x))
	return slices.Concat(complexFlaws(letter, impl.ErrInvalid, letter, place, wrong), complexFlaws(letter, impl.ErrRange, letter+"xy", place, others))
}

// flawsOf lists flaws of each kind for arguments, kind by kind.
func flawsOf(random *numbers, a given4, wrong []impl.Complex) [][]flaw[given4] {
	p := a.x.Prime
	return [][]flaw[given4]{
		endFlaws("x", a.x, func(a *given4) *impl.Complex { return &a.x }, wrong),
		endFlaws("y", a.y, func(a *given4) *impl.Complex { return &a.y }, wrong),
		endFlaws("z", a.z, func(a *given4) *impl.Complex { return &a.z }, wrong),
		familyFlaws("f", p, a.f, func(a *given4) *tables { return &a.f }),
		familyFlaws("g", p, a.g, func(a *given4) *tables { return &a.g }),
		familyFlaws("t", p, a.next, func(a *given4) *tables { return &a.next }),
		familyFlaws("h", p, a.h, func(a *given4) *tables { return &a.h }),
		numberFlaws("n", 0, int64(len(a.x.Dims))-1, func(a *given4) *int64 { return &a.n }),
		numberFlaws("k", 0, p-1, func(a *given4) *int64 { return &a.k }),
		numberFlaws("s", 0, 1, func(a *given4) *int64 { return &a.s }),
		vectorFlaws("v", p, a.v, func(a *given4) *[]int64 { return &a.v }),
		stateFlaws(random, "f", a.x, a.y, a.f, func(a *given4) *tables { return &a.f }),
		stateFlaws(random, "g", a.x, a.y, a.g, func(a *given4) *tables { return &a.g }),
	}
}

// undo4 reports whether one of two flaws may take back the other one: both of complexes that do not fit
// to others, but perhaps to each other.
func undo4(one flaw[given4], other flaw[given4]) bool {
	return takesAll("xyz", one.argument+other.argument) && one.code == impl.ErrRange && other.code == impl.ErrRange
}

func TestErrorsOfChapter4(t *testing.T) {
	random := &numbers{state: 16}
	wrong := noComplexes()
	for at, m := range knownMaps(1) {
		a := givenOf(random, m)
		kinds := flawsOf(random, a, wrong)
		expectSingleFlaws(t, random, a, callsWith4, kinds, 12)
		if at%2 == 0 { // one small and one great map of each top are enough for pairs of flaws
			expectPairsOfFlaws(t, random, a, callsWith4, kinds, undo4)
		}
	}
}

// TestEachErrorOfChapter4 has all flaws of arguments of few vectors, one by one.
func TestEachErrorOfChapter4(t *testing.T) {
	random := &numbers{state: 17}
	for _, p := range []int64{2, 7} {
		for top := range int64(3) {
			a := givenOf(random, anyMap(random, p, top, 2, 2))
			for _, list := range flawsOf(random, a, noComplexes()) {
				for _, one := range list {
					expectFlaws(t, a, callsWith4, one)
				}
			}
		}
	}
}

// TestComplexesThatAreNoneAtAll has no complex at any place, and nothing else right either.
func TestComplexesThatAreNoneAtAll(t *testing.T) {
	for _, bad := range noComplexes() {
		for _, n := range farNumbers {
			for _, call := range callsWith4(given4{x: bad, y: bad, z: bad, n: n, k: n, s: n, v: []int64{n}, f: tables{{{n}}}}) {
				expectCode(t, fmt.Sprintf("%s with %v and %d", call.name, bad, n), impl.ErrInvalid, call.run())
			}
		}
	}
}

// TestFamiliesThatFitOtherComplexes has families that are right in another place.
func TestFamiliesThatFitOtherComplexes(t *testing.T) {
	x, y := flatOf(3, 2, 1, 0), flatOf(3, 1, 3, 2)
	there, back, up, upBack := zeroOf(t, x, y, 0), zeroOf(t, y, x, 0), zeroOf(t, x, y, 1), zeroOf(t, y, x, 1)
	for _, f := range []tables{back, up, upBack, {}, nil, there[:2], append(slices.Clone(there), nil)} {
		for _, call := range callsWith4(given4{x: x, y: y, z: x, f: f, g: there, next: back, h: up, v: []int64{0, 0}}) {
			if takesAll(call.takes, "f") {
				expectCode(t, fmt.Sprintf("%s with f %v", call.name, f), impl.ErrRange, call.run())
			}
		}
		for _, call := range callsWith4(given4{x: x, y: y, z: x, f: there, g: f, next: back, h: up, v: []int64{0, 0}}) {
			if takesAll(call.takes, "g") {
				expectCode(t, fmt.Sprintf("%s with g %v", call.name, f), impl.ErrRange, call.run())
			}
		}
	}
	for _, next := range []tables{there, up, upBack} {
		expectCode(t, "ComposeFamilies", impl.ErrRange, all(impl.ComposeFamilies(x, y, x, there, next)))
	}
	for _, h := range []tables{there, back, upBack, zeroOf(t, x, x, 1), zeroOf(t, y, y, 1), nil} {
		expectCode(t, "IsHomotopy", impl.ErrRange, all(impl.IsHomotopy(x, y, there, there, h)))
	}
}

// TestRowsWithoutNumbersOfFamilies has rows without numbers where the target has no vectors.
func TestRowsWithoutNumbersOfFamilies(t *testing.T) {
	x, y := flatOf(3, 2, 2), flatOf(3, 1, 0)
	good := tables{{{1}, {2}}, {{}, nil}}
	expectChainMap(t, "with rows without numbers", true, x, y, good)
	expectResults(t, "ApplyFamily without numbers", all([]int64{}, 0), all(impl.ApplyFamily(x, y, good, 1, []int64{1, 2})))
	for _, bad := range []tables{{{{1}, {2}}, {{}}}, {{{1}, {2}}, {}}, {{{1}, {2}}, nil}, {{{1}, {2}}, {{}, {0}}}, {{{1}, {2}}, {{}, {}, {}}}, {{{1}, {}}, {{}, {}}}} {
		expectCode(t, fmt.Sprint("IsChainMap of ", bad), impl.ErrRange, all(impl.IsChainMap(x, y, bad)))
	}
	zero := zeroOf(t, x, y, 0)
	for _, h := range []tables{{{{}, {}}, {{}, {}}}, {{nil, nil}, {nil, nil}}} {
		expectHomotopy(t, true, x, y, zero, zero, h)
	}
	for _, h := range []tables{{{}, {{}, {}}}, {{{}, {}}, {}}, {{{}, {}}, {{0}, {0}}}, {{{0}, {}}, {{}, {}}}, {{{}, {}}}} {
		expectCode(t, fmt.Sprint("IsHomotopy of ", h), impl.ErrRange, all(impl.IsHomotopy(x, y, zero, zero, h)))
	}
}

func TestFunctionsOfChapter4ArePure(t *testing.T) {
	random := &numbers{state: 18}
	check := func(a given4) {
		args := all(a.x, a.y, a.z, a.f, a.g, a.next, a.h, a.v)
		for _, call := range callsWith4(a) {
			checkPure(t, call.name, args, call.run)
		}
	}
	for at, m := range knownMaps(1) {
		a := givenOf(random, m)
		check(spare4(a))
		if at%4 > 1 { // the smaller maps are enough
			continue
		}
		for _, list := range flawsOf(random, a, noComplexes()) {
			for _, one := range someOf(random, list, 1) {
				b := a
				one.apply(&b)
				check(spare4(b))
			}
		}
		// the same complexes and families at all places
		identity := identityOf(t, a.x)
		check(spare4(given4{x: a.x, y: a.x, z: a.x, f: identity, g: identity, next: identity, h: zeroOf(t, a.x, a.x, 1), n: a.n, v: a.v}))
		same := withSpare(identity)
		check(given4{x: a.x, y: a.x, z: a.x, f: same, g: same, next: same, h: same, n: a.n, v: a.v, k: 1})
	}
}

// spare4 returns a copy of arguments in which each slice has spare capacity.
func spare4(a given4) given4 {
	a.x, a.y, a.z = withSpare(a.x), withSpare(a.y), withSpare(a.z)
	a.f, a.g, a.next, a.h, a.v = withSpare(a.f), withSpare(a.g), withSpare(a.next), withSpare(a.h), withSpare(a.v)
	return a
}
