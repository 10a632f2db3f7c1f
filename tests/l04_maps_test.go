package tests

import (
	"fmt"
	"testing"

	"loop.example/g01273/impl"
)

// expectChainMap checks what IsChainMap says of a family.
func expectChainMap(t *testing.T, name string, want bool, x impl.Complex, y impl.Complex, f tables) {
	t.Helper()
	expectResults(t, "IsChainMap "+name, all(want, 0), all(impl.IsChainMap(x, y, f)))
}

// identityOf returns the identity of a complex.
func identityOf(t *testing.T, x impl.Complex) tables {
	t.Helper()
	f, code := impl.IdentityMap(x)
	if code != impl.ErrNone {
		t.Fatalf("IdentityMap(%v): code %d", x, code)
	}
	return f
}

// composed returns the composition of families f from x to y and h from y to z.
func composed(t *testing.T, x impl.Complex, y impl.Complex, z impl.Complex, f tables, h tables) tables {
	t.Helper()
	both, code := impl.ComposeFamilies(x, y, z, f, h)
	if code != impl.ErrNone {
		t.Fatalf("ComposeFamilies(%v, %v, %v, %v, %v): code %d", x, y, z, f, h, code)
	}
	return both
}

// added returns f and k times h together.
func added(t *testing.T, x impl.Complex, y impl.Complex, f tables, h tables, k int64) tables {
	t.Helper()
	both, code := impl.AddFamilies(x, y, f, h, k)
	if code != impl.ErrNone {
		t.Fatalf("AddFamilies(%v, %v, %v, %v, %d): code %d", x, y, f, h, k, code)
	}
	return both
}

// zeroOf returns the family of the shift s with zeros alone.
func zeroOf(t *testing.T, x impl.Complex, y impl.Complex, s int64) tables {
	t.Helper()
	f, code := impl.ZeroFamily(x, y, s)
	if code != impl.ErrNone {
		t.Fatalf("ZeroFamily(%v, %v, %d): code %d", x, y, s, code)
	}
	return f
}

func TestFamiliesByHand(t *testing.T) {
	x, y, z := parsed(t, "5:2,1:12"), parsed(t, "5:1,2:1,3"), parsed(t, "5:1,1:2")
	f, h := tables{{{2}, {3}}, {{0, 1}}}, tables{{{4}}, {{2}, {1}}}
	// f d is 2 + 2 * 3 = 3, and d f is 3; h d is 4 and 12 = 2, and d h is 4 and 2
	expectChainMap(t, "of the first one", true, x, y, f)
	expectChainMap(t, "of the second one", true, y, z, h)
	expectChainMap(t, "of a third one", false, x, y, tables{{{2}, {3}}, {{1, 1}}})
	expectChainMap(t, "of the negative one", false, x, y, tables{{{2}, {3}}, {{0, 4}}})
	expectResults(t, "ApplyFamily at 0", all([]int64{2}, 0), all(impl.ApplyFamily(x, y, f, 0, []int64{4, 3})))
	expectResults(t, "ApplyFamily at 1", all([]int64{0, 3}, 0), all(impl.ApplyFamily(x, y, f, 1, []int64{3})))
	expectResults(t, "ApplyFamily of the second one", all([]int64{3}, 0), all(impl.ApplyFamily(y, z, h, 1, []int64{3, 2})))
	both := tables{{{3}, {2}}, {{1}}}
	expectResults(t, "ComposeFamilies", all(both, 0), all(impl.ComposeFamilies(x, y, z, f, h)))
	expectChainMap(t, "of the composition", true, x, z, both)
	other := tables{{{1}, {2}}, {{4, 0}}}
	expectResults(t, "AddFamilies", all(tables{{{0}, {4}}, {{2, 1}}}, 0), all(impl.AddFamilies(x, y, f, other, 3)))
	expectResults(t, "IdentityMap", all(tables{{{1, 0}, {0, 1}}, {{1}}}, 0), all(impl.IdentityMap(x)))
	expectResults(t, "ZeroFamily of the shift 0", all(tables{{{0}, {0}}, {{0, 0}}}, 0), all(impl.ZeroFamily(x, y, 0)))
	expectResults(t, "ZeroFamily of the shift 1", all(tables{{{0, 0}, {0, 0}}, {{}}}, 0), all(impl.ZeroFamily(x, y, 1)))
}

// TestMapsInOneDegreeOnly has chain maps whose only numbers are at the ends of the degrees.
func TestMapsInOneDegreeOnly(t *testing.T) {
	x := parsed(t, "3:1,1,1:1;0")
	for _, c := range []struct {
		numbers [3]int64
		want    bool
	}{{[3]int64{0, 0, 0}, true}, {[3]int64{0, 0, 2}, true}, {[3]int64{1, 0, 0}, false}, {[3]int64{0, 1, 0}, false}, {[3]int64{1, 1, 2}, true}, {[3]int64{2, 1, 0}, false}} {
		f := tables{{{c.numbers[0]}}, {{c.numbers[1]}}, {{c.numbers[2]}}}
		expectChainMap(t, fmt.Sprint(c.numbers), c.want, x, x, f)
	}
}

func TestSmallFamilies(t *testing.T) {
	for _, e := range allSmallEnds() {
		for _, f := range allFamilies(e.x, e.y, 0) {
			expectChainMap(t, fmt.Sprintf("%v to %v by %v", e.x, e.y, f), plainIsChainMap(e.x, e.y, f), e.x, e.y, f)
		}
	}
}

func TestKnownMapsAreChainMaps(t *testing.T) {
	g := &numbers{state: 5}
	yes, no := 0, 0
	for _, m := range knownMaps(4) {
		x, y := m.X.Complex, m.Y.Complex
		expectChainMap(t, m.name(), true, x, y, m.F)
		for range 4 {
			if f, ok := changed(g, x.Prime, m.F); ok {
				want := plainIsChainMap(x, y, f)
				expectChainMap(t, "changed "+m.name(), want, x, y, f)
				if want {
					yes++
				} else {
					no++
				}
			}
		}
		other := randomFamily(g, x, y, 0)
		expectChainMap(t, "other than "+m.name(), plainIsChainMap(x, y, other), x, y, other)
	}
	if yes < 20 || no < 200 {
		t.Errorf("%d changed ones are chain maps, %d are none", yes, no)
	}
}

func TestApplyFamily(t *testing.T) {
	g := &numbers{state: 6}
	for _, m := range knownMaps(2) {
		x, y := m.X.Complex, m.Y.Complex
		for _, f := range []tables{m.F, randomFamily(g, x, y, 0)} {
			for n, dim := range x.Dims {
				for _, v := range append(basisOf(dim), g.row(x.Prime, dim), make([]int64, dim)) {
					want := plainImage(y, f, 0, int64(n), v)
					name := fmt.Sprintf("ApplyFamily %v at %d of %v", m.name(), n, v)
					expectResults(t, name, all(want, 0), all(impl.ApplyFamily(x, y, f, int64(n), v)))
				}
			}
		}
	}
}

// TestImagesOfDifferentials has the images of differentials, of vectors and not of basis vectors.
func TestImagesOfDifferentials(t *testing.T) {
	g := &numbers{state: 7}
	for _, m := range knownMaps(2) {
		x, y := m.X.Complex, m.Y.Complex
		for n := int64(1); int(n) < len(x.Dims); n++ {
			v := g.row(x.Prime, x.Dims[n])
			image, code := impl.ApplyFamily(x, y, m.F, n, v)
			expectCode(t, "ApplyFamily", impl.ErrNone, all(image, code))
			want, code := impl.DifferentialOf(y, n, image)
			expectCode(t, "DifferentialOf the image", impl.ErrNone, all(want, code))
			down, code := impl.DifferentialOf(x, n, v)
			expectCode(t, "DifferentialOf", impl.ErrNone, all(down, code))
			expectResults(t, "image of the differential "+m.name(), all(want, 0), all(impl.ApplyFamily(x, y, m.F, n-1, down)))
		}
	}
}

func TestCompositions(t *testing.T) {
	g := &numbers{state: 8}
	for _, m := range knownMaps(3) {
		next := movedFrom(g, m.Y)
		x, y, z := m.X.Complex, m.Y.Complex, next.Y.Complex
		expectChainMap(t, next.name(), true, y, z, next.F)
		both := composed(t, x, y, z, m.F, next.F)
		expectResults(t, "ComposeFamilies "+m.name(), all(plainComposition(x, y, z, m.F, next.F)), all(both))
		expectChainMap(t, "of a composition", true, x, z, both)
		for n, rank := range m.Ranks {
			expectResults(t, "InducedRank of a composition", all(rank, 0), all(impl.InducedRank(x, z, both, int64(n))))
		}
		expectResults(t, "ahead of the identity", all(m.F), all(composed(t, x, y, y, m.F, identityOf(t, y))))
		expectResults(t, "behind the identity", all(m.F), all(composed(t, x, x, y, identityOf(t, x), m.F)))
		expectResults(t, "ahead of zeros", all(zeroOf(t, x, z, 0)), all(composed(t, x, y, z, m.F, zeroOf(t, y, z, 0))))
		expectResults(t, "behind zeros", all(zeroOf(t, z, y, 0)), all(composed(t, z, x, y, zeroOf(t, z, x, 0), m.F)))
	}
}

func TestCompositionsOfAnyFamilies(t *testing.T) {
	g := &numbers{state: 9}
	list := knownComplexes(5)
	for at, k := range list[:len(list)-2] {
		x, y, z := k.Complex, list[at+1].Complex, list[at+2].Complex
		if x.Prime != z.Prime || len(x.Dims) != len(z.Dims) {
			continue
		}
		first, second, last := randomFamily(g, x, y, 0), randomFamily(g, y, z, 0), randomFamily(g, z, x, 0)
		two := composed(t, x, y, z, first, second)
		expectResults(t, "ComposeFamilies of any families", all(plainComposition(x, y, z, first, second)), all(two))
		left := composed(t, x, z, x, two, last)
		right := composed(t, x, y, x, first, composed(t, y, z, x, second, last))
		expectResults(t, "three families", all(left), all(right))
	}
}

func TestIdentities(t *testing.T) {
	for _, k := range knownComplexes(3) {
		x := k.Complex
		identity := identityOf(t, x)
		want := familyBy(x, func(_ int64, v []int64) []int64 { return v })
		expectResults(t, fmt.Sprint("IdentityMap ", x), all(want), all(identity))
		expectChainMap(t, "of the identity", true, x, x, identity)
		expectResults(t, "composition of identities", all(identity), all(composed(t, x, x, x, identity, identity)))
		for n, holes := range k.Holes {
			expectResults(t, "InducedRank of the identity", all(holes, 0), all(impl.InducedRank(x, x, identity, int64(n))))
		}
		expectResults(t, "IsQuasi of the identity", all(true, 0), all(impl.IsQuasi(x, x, identity)))
	}
}

func TestSumsOfFamilies(t *testing.T) {
	g := &numbers{state: 10}
	for _, m := range knownMaps(2) {
		x, y := m.X.Complex, m.Y.Complex
		other := plainSum(x, y, m.F, plainNull(x, y, randomFamily(g, x, y, 1)), 1)
		loose := randomFamily(g, x, y, 0)
		for k := range x.Prime {
			name := fmt.Sprintf("AddFamilies %s and %d times %v", m.name(), k, other)
			both := added(t, x, y, m.F, other, k)
			expectResults(t, name, all(plainSum(x, y, m.F, other, k)), all(both))
			expectChainMap(t, "of "+name, true, x, y, both)
			expectResults(t, "AddFamilies of any families", all(plainSum(x, y, loose, m.F, k)), all(added(t, x, y, loose, m.F, k)))
		}
		expectResults(t, "k of 0", all(m.F), all(added(t, x, y, m.F, loose, 0)))
		expectResults(t, "k of p - 1", all(zeroOf(t, x, y, 0)), all(added(t, x, y, loose, loose, x.Prime-1)))
	}
}

func TestZeroFamilies(t *testing.T) {
	for _, m := range knownMaps(2) {
		x, y := m.X.Complex, m.Y.Complex
		for s := range int64(2) {
			want := familyBy(x, func(n int64, _ []int64) []int64 { return make([]int64, dimIn(y, n+s)) })
			expectResults(t, fmt.Sprintf("ZeroFamily of the shift %d %s", s, m.name()), all(want), all(zeroOf(t, x, y, s)))
		}
		zero := zeroOf(t, x, y, 0)
		expectChainMap(t, "of zeros", true, x, y, zero)
		for n := range x.Dims {
			expectResults(t, "InducedRank of zeros", all(0, 0), all(impl.InducedRank(x, y, zero, int64(n))))
		}
	}
}

func TestFamiliesAtTheirLimits(t *testing.T) {
	g := &numbers{state: 11}
	for _, p := range []int64{2, 7} {
		full, empty := flatOf(p, 8, 8, 8, 8, 8, 8), flatOf(p, 0, 0, 0, 0, 0, 0)
		for _, e := range []ends{{full, full}, {full, empty}, {empty, full}, {empty, empty}} {
			f, back := randomFamily(g, e.x, e.y, 0), randomFamily(g, e.y, e.x, 0)
			expectChainMap(t, "at the limits", true, e.x, e.y, f)
			want := plainComposition(e.x, e.y, e.x, f, back)
			expectResults(t, "ComposeFamilies at the limits", all(want), all(composed(t, e.x, e.y, e.x, f, back)))
			expectResults(t, "AddFamilies at the limits", all(plainSum(e.x, e.y, f, f, p-1)), all(added(t, e.x, e.y, f, f, p-1)))
			// above the top there is nothing, so that the rows have no numbers
			expectResults(t, "ZeroFamily at the top", all(zeros(e.x.Dims[5], 0)), all(zeroOf(t, e.x, e.y, 1)[5]))
			v := g.row(p, e.x.Dims[5])
			expectResults(t, "ApplyFamily at the limits", all(plainImage(e.y, f, 0, 5, v), 0), all(impl.ApplyFamily(e.x, e.y, f, 5, v)))
		}
	}
}
