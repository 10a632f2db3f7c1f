package tests

import (
	"fmt"
	"slices"
	"testing"

	"loop.example/g01273/impl"
)

// given6 has arguments for all functions of chapter 6: complexes x and y, families f from x to u and g
// from y to v, a vector left of the degree i of x and one right of the degree j of y, basis vectors a
// and b there, and numbers n of a Kuenneth number, k of a power, and s of a sphere modulo p.
type given6 struct {
	x, y, u, v  impl.Complex
	f, g        tables
	i, a, j, b  int64
	left, right []int64
	n, k, p, s  int64
}

// callsWith6 lists a call of each function of chapter 6. The vectors are told by l and r.
func callsWith6(a given6) []call {
	tensor := func() bool { return !hasTensor(a.x, a.y) }
	return []call{
		{"TensorComplexes", "xy", tensor, func() []any { return all(impl.TensorComplexes(a.x, a.y)) }},
		{"TensorDims", "xy", nil, func() []any { return all(impl.TensorDims(a.x, a.y)) }},
		{"PlaceOfPair", "xyiajb", nil, func() []any { return all(impl.PlaceOfPair(a.x, a.y, a.i, a.a, a.j, a.b)) }},
		{"PairVectors", "xyiljr", nil, func() []any { return all(impl.PairVectors(a.x, a.y, a.i, a.left, a.j, a.right)) }},
		{"KuennethNumber", "xyn", nil, func() []any { return all(impl.KuennethNumber(a.x, a.y, a.n)) }},
		{"SwapFamily", "xy", tensor, func() []any { return all(impl.SwapFamily(a.x, a.y)) }},
		{"ProductFamily", "xuyvfgc", func() bool { return !hasTensor(a.x, a.y) || !hasTensor(a.u, a.v) },
			func() []any { return all(impl.ProductFamily(a.x, a.u, a.f, a.y, a.v, a.g)) }},
		{"UnitComplex", "p", nil, func() []any { return all(impl.UnitComplex(a.p)) }},
		{"PowerComplex", "xk", func() bool { return !hasPower(a.x, a.k) }, func() []any { return all(impl.PowerComplex(a.x, a.k)) }},
		{"SphereComplex", "ps", nil, func() []any { return all(impl.SphereComplex(a.p, a.s)) }},
	}
}

// hasPower reports whether the power k, which is in its range, keeps to the limits.
func hasPower(x impl.Complex, k int64) bool {
	power := flatOf(x.Prime, 1)
	for range k {
		if !hasTensor(power, x) {
			return false
		}
		power = flatOf(x.Prime, plainTensorDims(power, x)...)
	}
	return true
}

// degreeWithVectors returns a degree of x with vectors, and whether there is one.
func degreeWithVectors(g *numbers, x impl.Complex) (int64, bool) {
	if isZeroRow(x.Dims) {
		return 0, false
	}
	for {
		if n := g.below(int64(len(x.Dims))); x.Dims[n] > 0 {
			return n, true
		}
	}
}

// givenFrom returns arguments without a flaw, made from maps, if both start where there are vectors.
func givenFrom(g *numbers, m mapPair) (given6, bool) {
	x, y := m.source()
	u, v := m.target()
	i, has := degreeWithVectors(g, x)
	j, hasToo := degreeWithVectors(g, y)
	if !has || !hasToo {
		return given6{}, false
	}
	return given6{
		x: x, y: y, u: u, v: v, f: m.f.F, g: m.g.F,
		i: i, a: g.below(x.Dims[i]), j: j, b: g.below(y.Dims[j]), left: g.row(x.Prime, x.Dims[i]), right: g.row(x.Prime, y.Dims[j]),
		n: g.below(11), k: g.below(5), p: x.Prime, s: g.below(6),
	}, true
}

// flawsFrom lists flaws of each kind for arguments, kind by kind.
func flawsFrom(random *numbers, a given6, wrong []impl.Complex) [][]flaw[given6] {
	p := a.x.Prime
	x, y := func(a *given6) *impl.Complex { return &a.x }, func(a *given6) *impl.Complex { return &a.y }
	u, v := func(a *given6) *impl.Complex { return &a.u }, func(a *given6) *impl.Complex { return &a.v }
	f, g := func(a *given6) *tables { return &a.f }, func(a *given6) *tables { return &a.g }
	return [][]flaw[given6]{
		slices.Concat(complexFlaws("x", impl.ErrInvalid, "x", x, wrong), complexFlaws("x", impl.ErrRange, "xy", x, otherPrimes(a.x))),
		slices.Concat(complexFlaws("y", impl.ErrInvalid, "y", y, wrong), complexFlaws("y", impl.ErrRange, "xy", y, otherPrimes(a.y))),
		slices.Concat(complexFlaws("u", impl.ErrInvalid, "u", u, wrong), complexFlaws("u", impl.ErrRange, "u", u, append(otherPrimes(a.u), otherTops(a.u)...))),
		slices.Concat(complexFlaws("v", impl.ErrInvalid, "v", v, wrong), complexFlaws("v", impl.ErrRange, "v", v, append(otherPrimes(a.v), otherTops(a.v)...))),
		familyFlaws("f", p, a.f, f),
		familyFlaws("g", p, a.g, g),
		stateFlaws(random, "f", a.x, a.u, a.f, f),
		stateFlaws(random, "g", a.y, a.v, a.g, g),
		numberFlaws("i", 0, int64(len(a.x.Dims))-1, func(a *given6) *int64 { return &a.i }),
		numberFlaws("a", 0, a.x.Dims[a.i]-1, func(a *given6) *int64 { return &a.a }),
		numberFlaws("j", 0, int64(len(a.y.Dims))-1, func(a *given6) *int64 { return &a.j }),
		numberFlaws("b", 0, a.y.Dims[a.j]-1, func(a *given6) *int64 { return &a.b }),
		vectorFlaws("l", p, a.left, func(a *given6) *[]int64 { return &a.left }),
		vectorFlaws("r", p, a.right, func(a *given6) *[]int64 { return &a.right }),
		numberFlaws("n", 0, 2*impl.MaxTop, func(a *given6) *int64 { return &a.n }),
		numberFlaws("k", 0, 4, func(a *given6) *int64 { return &a.k }),
		numberFlaws("s", 0, impl.MaxTop, func(a *given6) *int64 { return &a.s }),
		primeFlaws("p", func(a *given6) *int64 { return &a.p }),
	}
}

// undo6 reports whether one of two flaws may take back the other one: both of complexes with another
// prime, or numbers of degrees, but perhaps with the same ones.
func undo6(one flaw[given6], other flaw[given6]) bool {
	return takesAll("xyuv", one.argument+other.argument) && one.code == impl.ErrRange && other.code == impl.ErrRange
}

// givens6 lists arguments without a flaw: for each two maps of a list, if they start where there are
// vectors.
func givens6(random *numbers, list []mapPair) []given6 {
	var givens []given6
	for _, m := range list {
		if a, ok := givenFrom(random, m); ok {
			givens = append(givens, a)
		}
	}
	return givens
}

// wideMapPairs lists pairs of maps of which most products exceed the limits, by tops or dimensions.
func wideMapPairs() []mapPair {
	g := &numbers{state: 81}
	var list []mapPair
	for _, p := range usualPrimes {
		for top := range int64(impl.MaxTop + 1) {
			list = append(list, mapPair{anyMap(g, p, top, 2, 2), anyMap(g, p, impl.MaxTop-top/2, 2, 2)}, mapPair{anyMap(g, p, top, 3, 3), anyMap(g, p, g.below(6), 3, 4)})
		}
	}
	return list
}

func TestErrorsOfChapter6(t *testing.T) {
	random := &numbers{state: 82}
	wrong := noComplexes()
	givens := slices.Concat(givens6(random, mapPairs(1)), givens6(random, wideMapPairs()))
	within, beyond := 0, 0
	for at, a := range givens {
		if hasTensor(a.x, a.y) {
			within++
		} else {
			beyond++
		}
		kinds := flawsFrom(random, a, wrong)
		expectSingleFlaws(t, random, a, callsWith6, kinds, 4)
		if at%11 == 0 {
			expectPairsOfFlaws(t, random, a, callsWith6, kinds, undo6)
		}
	}
	if within < 30 || beyond < 30 {
		t.Errorf("%d products within the limits, %d beyond", within, beyond)
	}
}

// TestEachErrorOfChapter6 has all flaws of arguments of few vectors, one by one.
func TestEachErrorOfChapter6(t *testing.T) {
	random := &numbers{state: 83}
	for _, p := range []int64{2, 7} {
		for top := range int64(3) {
			a, ok := givenFrom(random, mapPair{anyMap(random, p, top, 2, 2), quasiMap(random, p, 2-top, 2, 2)})
			for !ok {
				a, ok = givenFrom(random, mapPair{anyMap(random, p, top, 2, 2), quasiMap(random, p, 2-top, 2, 2)})
			}
			for _, list := range flawsFrom(random, a, noComplexes()) {
				for _, one := range list {
					expectFlaws(t, a, callsWith6, one)
				}
			}
		}
	}
}

// TestComplexesThatAreNoneForTensors has no complex at any place, and nothing else right either.
func TestComplexesThatAreNoneForTensors(t *testing.T) {
	good := flatOf(3, 1)
	for _, bad := range noComplexes() {
		for _, n := range farNumbers {
			wrong := given6{x: bad, y: bad, u: bad, v: bad, f: tables{{{n}}}, i: n, a: n, j: n, b: n, left: []int64{n}, n: n, k: n, p: n, s: n}
			for _, call := range callsWith6(wrong) {
				want := int64(impl.ErrInvalid)
				if takesAll(call.takes, "p") {
					want = impl.ErrRange
				}
				expectCode(t, fmt.Sprintf("%s with %v and %d", call.name, bad, n), want, call.run())
			}
		}
		one := tables{{{1}}}
		for _, ends := range [][4]impl.Complex{{bad, good, good, good}, {good, bad, good, good}, {good, good, bad, good}, {good, good, good, bad}} {
			expectCode(t, fmt.Sprint("ProductFamily with ", bad), impl.ErrInvalid, all(impl.ProductFamily(ends[0], ends[1], one, ends[2], ends[3], one)))
		}
	}
}

// TestPrimesOfUnitsAndSpheres has numbers that are no primes of the program, and degrees out of range.
func TestPrimesOfUnitsAndSpheres(t *testing.T) {
	for p := int64(-20); p <= 130; p++ {
		want := int64(impl.ErrRange)
		if slices.Contains(usualPrimes, p) {
			want = impl.ErrNone
		}
		expectCode(t, fmt.Sprint("UnitComplex of ", p), want, all(impl.UnitComplex(p)))
		for _, n := range append([]int64{0, 1, 5, 6, 7, 1 << 32}, farNumbers...) {
			code := want
			if n < 0 || n > impl.MaxTop {
				code = impl.ErrRange
			}
			expectCode(t, fmt.Sprintf("SphereComplex of %d and %d", p, n), code, all(impl.SphereComplex(p, n)))
		}
	}
}

// TestPrimesAheadOfLimits has complexes with different primes, and products beyond the limits.
func TestPrimesAheadOfLimits(t *testing.T) {
	for _, p := range usualPrimes {
		for _, q := range usualPrimes {
			for _, dims := range [][]int64{{1}, {8}, {0, 0, 0, 0, 0, 0}, {8, 8, 8, 8, 8, 8}} {
				x, y := flatOf(p, dims...), flatOf(q, dims...)
				want, limit := int64(impl.ErrNone), int64(impl.ErrNone)
				if !hasTensor(x, y) {
					limit = impl.ErrLimit
				}
				if p != q {
					want, limit = impl.ErrRange, impl.ErrRange
				}
				name := fmt.Sprintf(" modulo %d and %d of %v", p, q, dims)
				expectCode(t, "TensorComplexes"+name, limit, all(impl.TensorComplexes(x, y)))
				expectCode(t, "SwapFamily"+name, limit, all(impl.SwapFamily(x, y)))
				expectCode(t, "TensorDims"+name, want, all(impl.TensorDims(x, y)))
				expectCode(t, "KuennethNumber"+name, want, all(impl.KuennethNumber(x, y, 0)))
				expectCode(t, "PairVectors"+name, want, all(impl.PairVectors(x, y, 0, make([]int64, dims[0]), 0, make([]int64, dims[0]))))
				if dims[0] > 0 {
					expectCode(t, "PlaceOfPair"+name, want, all(impl.PlaceOfPair(x, y, 0, 0, 0, 0)))
				}
				one, other := zeroOf(t, x, x, 0), zeroOf(t, y, y, 0)
				expectCode(t, "ProductFamily"+name, limit, all(impl.ProductFamily(x, x, one, y, y, other)))
				if p != q {
					expectCode(t, "ProductFamily"+name, impl.ErrRange, all(impl.ProductFamily(x, y, one, x, y, one)))
					expectCode(t, "ProductFamily"+name, impl.ErrRange, all(impl.ProductFamily(x, x, one, x, y, one)))
					expectCode(t, "ProductFamily"+name, impl.ErrRange, all(impl.ProductFamily(x, y, one, y, x, one)))
				}
			}
		}
	}
}

// TestStatesOfProducts has families of complexes beyond the limits: such as are none, such as are no
// chain maps at one place or at both, and chain maps.
func TestStatesOfProducts(t *testing.T) {
	x := flatOf(3, 8, 8, 8)
	x.Maps[1][2][3] = 2
	good, loose, none := identityOf(t, x), identityOf(t, x), identityOf(t, x)
	loose[1][3][3] = 2
	none[0][0][0] = 3
	for _, c := range []struct {
		f, g tables
		want int64
	}{
		{good, good, impl.ErrLimit}, {loose, good, impl.ErrState}, {good, loose, impl.ErrState}, {loose, loose, impl.ErrState},
		{none, good, impl.ErrRange}, {good, none, impl.ErrRange}, {none, loose, impl.ErrRange}, {loose, none, impl.ErrRange}, {none, none, impl.ErrRange},
		{good[:2], loose, impl.ErrRange}, {loose, good[:2], impl.ErrRange}, {nil, loose, impl.ErrRange}, {loose, nil, impl.ErrRange},
	} {
		expectCode(t, fmt.Sprintf("ProductFamily of %v and %v", c.f, c.g), c.want, all(impl.ProductFamily(x, x, c.f, x, x, c.g)))
	}
	// the numbers of degrees of x and y may be different, those of each map may not
	y, long := flatOf(3, 1), flatOf(3, 1, 0)
	one, longer := identityOf(t, y), identityOf(t, long)
	expectCode(t, "ProductFamily", impl.ErrNone, all(impl.ProductFamily(y, y, one, long, long, longer)))
	expectCode(t, "ProductFamily", impl.ErrNone, all(impl.ProductFamily(long, long, longer, y, y, one)))
	for _, f := range []tables{one, longer} {
		expectCode(t, "ProductFamily", impl.ErrRange, all(impl.ProductFamily(y, long, f, long, y, f)))
		expectCode(t, "ProductFamily", impl.ErrRange, all(impl.ProductFamily(y, y, one, y, long, f)))
		expectCode(t, "ProductFamily", impl.ErrRange, all(impl.ProductFamily(long, y, f, y, y, one)))
	}
}

func TestFunctionsOfChapter6ArePure(t *testing.T) {
	random := &numbers{state: 84}
	check := func(a given6) {
		args := all(a.x, a.y, a.u, a.v, a.f, a.g, a.left, a.right)
		for _, call := range callsWith6(a) {
			checkPure(t, call.name, args, call.run)
		}
	}
	for at, a := range slices.Concat(givens6(random, mapPairs(1)), givens6(random, wideMapPairs())) {
		for k := range int64(5) {
			if k == 0 || at%8 == 0 {
				a.k = k
				check(spare6(a))
			}
		}
		if at%8 != 0 {
			continue
		}
		for _, list := range flawsFrom(random, a, noComplexes()) {
			for _, one := range someOf(random, list, 1) {
				b := a
				one.apply(&b)
				check(spare6(b))
			}
		}
		// the same complexes and families at all places
		x, same := withSpare(a.x), withSpare(identityOf(t, a.x))
		left := withSpare(a.left)
		check(given6{x: x, y: x, u: x, v: x, f: same, g: same, i: a.i, j: a.i, left: left, right: left, p: a.p, k: a.k, s: a.s})
	}
}

// spare6 returns a copy of arguments in which each slice has spare capacity.
func spare6(a given6) given6 {
	a.x, a.y, a.u, a.v = withSpare(a.x), withSpare(a.y), withSpare(a.u), withSpare(a.v)
	a.f, a.g, a.left, a.right = withSpare(a.f), withSpare(a.g), withSpare(a.left), withSpare(a.right)
	return a
}
