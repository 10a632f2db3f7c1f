package tests

import (
	"fmt"
	"slices"
	"testing"

	"loop.example/g01273/impl"
)

// rankAt returns the induced rank of a chain map at n.
func rankAt(t *testing.T, x impl.Complex, y impl.Complex, f tables, n int) int64 {
	t.Helper()
	rank, code := impl.InducedRank(x, y, f, int64(n))
	if code != impl.ErrNone {
		t.Fatalf("InducedRank(%v, %v, %v, %d): code %d", x, y, f, n, code)
	}
	return rank
}

// longOf returns the long sequence of a chain map.
func longOf(t *testing.T, x impl.Complex, y impl.Complex, f tables) []int64 {
	t.Helper()
	sequence, code := impl.LongSequence(x, y, f)
	if code != impl.ErrNone {
		t.Fatalf("LongSequence(%v, %v, %v): code %d", x, y, f, code)
	}
	return sequence
}

// expectExact checks that a long sequence is exact, and that the ranks of its maps from x to y are
// the induced ranks.
func expectExact(t *testing.T, name string, sequence []int64, ranks []int64) {
	t.Helper()
	if len(sequence) != 3*len(ranks)+3 {
		t.Errorf("LongSequence %s = %v has %d numbers", name, sequence, len(sequence))
		return
	}
	r := []int64{0}
	for k, number := range sequence {
		r = append(r, number-r[k])
	}
	if slices.Min(r) < 0 || r[len(r)-1] != 0 {
		t.Errorf("LongSequence %s = %v is not exact: %v", name, sequence, r)
	}
	for n, rank := range ranks {
		if at := 3*(len(ranks)-n) + 1; r[at] != rank {
			t.Errorf("LongSequence %s = %v has the rank %d at %d, want %d", name, sequence, r[at], n, rank)
		}
	}
}

// longNumbers returns the long sequence for homology numbers of x, of y and of the cone.
func longNumbers(x []int64, y []int64, cone []int64) []int64 {
	sequence := []int64{0, 0, cone[len(x)]}
	for n := len(x) - 1; n >= 0; n-- {
		sequence = append(sequence, x[n], y[n], cone[n])
	}
	return sequence
}

// expectCone checks the cone of a chain map, which may exceed limits.
func expectCone(t *testing.T, name string, x impl.Complex, y impl.Complex, f tables) {
	t.Helper()
	if !hasCone(x, y) {
		expectCode(t, "ConeOf "+name, impl.ErrLimit, all(impl.ConeOf(x, y, f)))
		return
	}
	cone, code := impl.ConeOf(x, y, f)
	expectResults(t, "ConeOf "+name, all(plainCone(x, y, f), 0), all(cone, code))
	if !impl.IsComplex(cone) {
		t.Errorf("ConeOf %s = %v is no complex", name, cone)
	}
}

func TestConesByHand(t *testing.T) {
	x, y := parsed(t, "5:2,1:12"), parsed(t, "5:1,2:1,3")
	f := tables{{{2}, {3}}, {{0, 1}}}
	cone, code := impl.ConeOf(x, y, f)
	expectCode(t, "ConeOf", impl.ErrNone, all(cone, code))
	// in the degree 1 two vectors of y and two of x, whose differentials are their images
	expectResults(t, "ConeOf", all("5:1,4,1:1,3,2,3;0143"), all(textOf(t, cone)))
	expectResults(t, "InducedRank at 0", all(0, 0), all(impl.InducedRank(x, y, f, 0)))
	expectResults(t, "InducedRank at 1", all(0, 0), all(impl.InducedRank(x, y, f, 1)))
	expectResults(t, "IsQuasi", all(false, 0), all(impl.IsQuasi(x, y, f)))
	expectResults(t, "LongSequence", all([]int64{0, 0, 0, 0, 1, 2, 1, 0, 0}, 0), all(impl.LongSequence(x, y, f)))
	point := parsed(t, "5:1,0:-")
	onto := tables{{{3}, {4}}, {{}}}
	// 3 + 2 * 4 = 11 is no 0, but 3 + 2 * 1 = 5 is one
	expectCode(t, "ConeOf no chain map", impl.ErrState, all(impl.ConeOf(x, point, onto)))
	onto[0][1][0] = 1
	cone, code = impl.ConeOf(x, point, onto)
	expectCode(t, "ConeOf onto a point", impl.ErrNone, all(cone, code))
	expectResults(t, "ConeOf onto a point", all("5:1,2,1:3,1;43"), all(textOf(t, cone)))
	expectResults(t, "IsQuasi onto a point", all(true, 0), all(impl.IsQuasi(x, point, onto)))
	expectResults(t, "InducedRank onto a point", all(1, 0), all(impl.InducedRank(x, point, onto, 0)))
	expectResults(t, "LongSequence onto a point", all([]int64{0, 0, 0, 0, 0, 0, 1, 1, 0}, 0), all(impl.LongSequence(x, point, onto)))
}

// TestConesOfPoints has complexes of the top 0, of each dimension.
func TestConesOfPoints(t *testing.T) {
	for a := range int64(impl.MaxDim + 1) {
		for b := range int64(impl.MaxDim + 1) {
			x, y := complexOf(3, []int64{a}), complexOf(3, []int64{b})
			f := tables{zeros(a, b)}
			for i := range min(a, b, 4) {
				f[0][i][i] = 2
			}
			rank := min(a, b, 4)
			name := fmt.Sprintf("of a point from %d to %d", a, b)
			expectResults(t, "ConeOf "+name, all(complexOf(3, []int64{b, a}, f[0]), 0), all(impl.ConeOf(x, y, f)))
			expectResults(t, "InducedRank "+name, all(rank, 0), all(impl.InducedRank(x, y, f, 0)))
			expectResults(t, "IsQuasi "+name, all(a == b && rank == a, 0), all(impl.IsQuasi(x, y, f)))
			expectResults(t, "LongSequence "+name, all([]int64{0, 0, a - rank, a, b, b - rank}, 0), all(impl.LongSequence(x, y, f)))
		}
	}
}

func TestSmallConesAgainstAllVectors(t *testing.T) {
	for _, e := range allSmallEnds() {
		x, y := e.x, e.y
		for _, f := range keepMaps(e, allFamilies(x, y, 0)) {
			name := fmt.Sprintf("%v to %v by %v", x, y, f)
			expectCone(t, name, x, y, f)
			cone := plainCone(x, y, f)
			quasi := true
			var xs, ys, cs, ranks []int64
			for n := range x.Dims {
				ranks = append(ranks, plainInduced(x, y, f, int64(n)))
				xs, ys = append(xs, plainHomology(x, int64(n))), append(ys, plainHomology(y, int64(n)))
				quasi = quasi && xs[n] == ranks[n] && ys[n] == ranks[n]
				expectResults(t, fmt.Sprintf("InducedRank %s at %d", name, n), all(ranks[n], 0), all(impl.InducedRank(x, y, f, int64(n))))
			}
			for n := range cone.Dims {
				cs = append(cs, plainHomology(cone, int64(n)))
			}
			expectResults(t, "IsQuasi "+name, all(quasi, 0), all(impl.IsQuasi(x, y, f)))
			if quasi != isZeroRow(cs) {
				t.Errorf("%s: quasi %v with the homology %v of the cone", name, quasi, cs)
			}
			expectResults(t, "LongSequence "+name, all(longNumbers(xs, ys, cs), 0), all(impl.LongSequence(x, y, f)))
			expectExact(t, name, longOf(t, x, y, f), ranks)
		}
	}
}

// keepMaps returns the families that are chain maps.
func keepMaps(e ends, families []tables) []tables {
	return slices.DeleteFunc(families, func(f tables) bool { return !plainIsChainMap(e.x, e.y, f) })
}

func TestKnownCones(t *testing.T) {
	quasi, cones := 0, 0
	for _, m := range knownMaps(8) {
		x, y, name := m.X.Complex, m.Y.Complex, m.name()
		expectCone(t, name, x, y, m.F)
		for n, rank := range m.Ranks {
			expectResults(t, fmt.Sprintf("InducedRank %s at %d", name, n), all(rank, 0), all(impl.InducedRank(x, y, m.F, int64(n))))
		}
		expectResults(t, "IsQuasi "+name, all(m.isQuasi(), 0), all(impl.IsQuasi(x, y, m.F)))
		if m.isQuasi() {
			quasi++
		}
		expectResults(t, "LongSequence "+name, all(longNumbers(m.X.Holes, m.Y.Holes, m.coneHoles()), 0), all(impl.LongSequence(x, y, m.F)))
		expectExact(t, name, longOf(t, x, y, m.F), m.Ranks)
		if !hasCone(x, y) {
			continue
		}
		cones++
		cone, _ := impl.ConeOf(x, y, m.F)
		holes := homologyOf(t, cone)
		expectResults(t, "homology of the cone "+name, all(m.coneHoles()), all(holes))
		if isZeroRow(holes) != m.isQuasi() {
			t.Errorf("%s: homology %v of the cone", name, holes)
		}
	}
	if quasi < 100 || cones < 100 {
		t.Errorf("%d quasi isomorphisms and %d cones", quasi, cones)
	}
}

// TestMapsWithEqualHomologyAndLowerRank has maps that lead equal homology not one to one, and others
// that lead it one to one, but not onto, or onto, but not one to one.
func TestMapsWithEqualHomologyAndLowerRank(t *testing.T) {
	two, one := parsed(t, "3:2,0,1:-;-"), parsed(t, "3:1,0,1:-;-")
	for _, c := range []struct {
		x, y  impl.Complex
		f     tables
		quasi bool
	}{
		{two, two, tables{{{1, 2}, {2, 1}}, {}, {{1}}}, false},
		{two, two, tables{{{1, 2}, {0, 1}}, {}, {{1}}}, true},
		{two, two, tables{{{1, 2}, {0, 1}}, {}, {{0}}}, false},
		{one, two, tables{{{1, 2}}, {}, {{1}}}, false},
		{two, one, tables{{{1}, {2}}, {}, {{1}}}, false},
	} {
		expectResults(t, fmt.Sprintf("IsQuasi %v", c), all(c.quasi, 0), all(impl.IsQuasi(c.x, c.y, c.f)))
	}
}

// TestConesOfIdentities has cones without homology.
func TestConesOfIdentities(t *testing.T) {
	for _, k := range knownComplexes(4) {
		x := k.Complex
		identity := identityOf(t, x)
		expectCone(t, fmt.Sprint("of the identity of ", x), x, x, identity)
		if hasCone(x, x) {
			cone, _ := impl.ConeOf(x, x, identity)
			expectResults(t, "homology of the cone", all(make([]int64, len(cone.Dims))), all(homologyOf(t, cone)))
		}
		expectResults(t, "LongSequence", all(longNumbers(k.Holes, k.Holes, make([]int64, len(k.Holes)+1)), 0), all(impl.LongSequence(x, x, identity)))
	}
}

// TestConesOfZeros has sums of the second complex and the shifted first one.
func TestConesOfZeros(t *testing.T) {
	count := 0
	for _, m := range knownMaps(4) {
		x, y := m.X.Complex, m.Y.Complex
		if !hasCone(x, y) {
			continue
		}
		count++
		shifted, code := impl.ShiftComplex(x, 1)
		expectCode(t, "ShiftComplex", impl.ErrNone, all(shifted, code))
		want, code := impl.AddComplexes(y, shifted)
		expectCode(t, "AddComplexes", impl.ErrNone, all(want, code))
		expectResults(t, "ConeOf zeros "+m.name(), all(want, 0), all(impl.ConeOf(x, y, zeroOf(t, x, y, 0))))
	}
	if count < 50 {
		t.Errorf("%d cones", count)
	}
}

// expectWithoutLimit checks that a cone exceeds limits, and that all else is found.
func expectWithoutLimit(t *testing.T, name string, x impl.Complex, y impl.Complex) {
	t.Helper()
	zero := zeroOf(t, x, y, 0)
	expectCode(t, "ConeOf "+name, impl.ErrLimit, all(impl.ConeOf(x, y, zero)))
	expectExact(t, name, longOf(t, x, y, zero), make([]int64, len(x.Dims)))
	expectCode(t, "IsQuasi "+name, impl.ErrNone, all(impl.IsQuasi(x, y, zero)))
	for n := range x.Dims {
		expectResults(t, "InducedRank "+name, all(0, 0), all(impl.InducedRank(x, y, zero, int64(n))))
	}
	expectResults(t, "AreHomotopic "+name, all(true, 0), all(impl.AreHomotopic(x, y, zero, zero)))
	expectResults(t, "IsHomotopy "+name, all(true, 0), all(impl.IsHomotopy(x, y, zero, zero, zeroOf(t, x, y, 1))))
}

func TestConesAtTheirLimits(t *testing.T) {
	for top := range impl.MaxTop {
		x := flatOf(2, make([]int64, top+1)...)
		expectCone(t, fmt.Sprint("of the top ", top), x, x, zeroOf(t, x, x, 0))
		expectCode(t, "ConeOf below MaxTop", impl.ErrNone, all(impl.ConeOf(x, x, zeroOf(t, x, x, 0))))
	}
	nothing, full := flatOf(2, 0, 0, 0, 0, 0, 0), flatOf(2, 8, 8, 8, 8, 8, 8)
	expectWithoutLimit(t, "of MaxTop without vectors", nothing, nothing)
	expectWithoutLimit(t, "of MaxTop to full", nothing, full)
	expectWithoutLimit(t, "of full to nothing", full, nothing)
	expectWithoutLimit(t, "of full", full, full)
	for _, c := range []struct {
		x, y []int64
		fits bool
	}{
		{[]int64{8, 8}, []int64{8, 0}, true}, {[]int64{8, 8}, []int64{8, 1}, false}, {[]int64{4, 8}, []int64{8, 4}, true}, {[]int64{5, 8}, []int64{8, 4}, false},
		{[]int64{0, 8, 0}, []int64{0, 0, 1}, false}, {[]int64{0, 8, 0}, []int64{0, 8, 0}, true}, {[]int64{0, 7, 0}, []int64{0, 0, 1}, true}, {[]int64{1, 0, 0}, []int64{0, 8, 0}, false},
	} {
		x, y := flatOf(2, c.x...), flatOf(2, c.y...)
		if !c.fits {
			expectWithoutLimit(t, fmt.Sprint(c), x, y)
			continue
		}
		cone, code := impl.ConeOf(x, y, zeroOf(t, x, y, 0))
		expectCode(t, fmt.Sprint("ConeOf ", c), impl.ErrNone, all(cone, code))
		if slices.Max(cone.Dims) != impl.MaxDim || !impl.IsComplex(cone) {
			t.Errorf("ConeOf %v = %v", c, cone)
		}
	}
}

// TestLongSequencesOfGreatCones has cones with the dimension 16 and the differential of full rank.
func TestLongSequencesOfGreatCones(t *testing.T) {
	g := &numbers{state: 12}
	for _, p := range []int64{2, 3, 5, 7} {
		x := complexOf(p, []int64{8, 8, 8, 8, 8, 8})
		for n := range impl.MaxTop {
			x.Maps = append(x.Maps, zeros(8, 8))
			for i := range 4 {
				x.Maps[n][7-i][i] = 1 + g.below(p-1)
			}
		}
		identity := identityOf(t, x)
		sequence := longNumbers([]int64{4, 0, 0, 0, 0, 4}, []int64{4, 0, 0, 0, 0, 4}, make([]int64, 7))
		expectResults(t, "LongSequence of the identity", all(sequence, 0), all(impl.LongSequence(x, x, identity)))
		expectResults(t, "IsQuasi of the identity", all(true, 0), all(impl.IsQuasi(x, x, identity)))
		null := plainNull(x, x, randomFamily(g, x, x, 1))
		sequence = longNumbers([]int64{4, 0, 0, 0, 0, 4}, []int64{4, 0, 0, 0, 0, 4}, []int64{4, 4, 0, 0, 0, 4, 4})
		expectResults(t, "LongSequence of none", all(sequence, 0), all(impl.LongSequence(x, x, null)))
		expectResults(t, "IsQuasi of none", all(false, 0), all(impl.IsQuasi(x, x, null)))
		near := plainSum(x, x, null, identity, p-1)
		expectResults(t, "IsQuasi near the identity", all(true, 0), all(impl.IsQuasi(x, x, near)))
		for n, rank := range []int64{4, 0, 0, 0, 0, 4} {
			if rankAt(t, x, x, near, n) != rank || rankAt(t, x, x, null, n) != 0 {
				t.Errorf("InducedRank at %d", n)
			}
		}
	}
}
