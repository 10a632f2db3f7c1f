package tests

import (
	"fmt"
	"testing"

	"loop.example/g01273/impl"
)

// expectHomotopic checks what AreHomotopic says of two chain maps, in both orders, and that homotopic
// ones have equal induced ranks.
func expectHomotopic(t *testing.T, want bool, x impl.Complex, y impl.Complex, f tables, g tables) {
	t.Helper()
	name := fmt.Sprintf("AreHomotopic(%v, %v, %v, %v)", x, y, f, g)
	expectResults(t, name, all(want, 0), all(impl.AreHomotopic(x, y, f, g)))
	expectResults(t, "reverse "+name, all(want, 0), all(impl.AreHomotopic(x, y, g, f)))
	if !want {
		return
	}
	for n := range x.Dims {
		if a, b := rankAt(t, x, y, f, n), rankAt(t, x, y, g, n); a != b {
			t.Errorf("%s with the ranks %d and %d at %d", name, a, b, n)
		}
	}
}

// expectHomotopy checks what IsHomotopy says of a family.
func expectHomotopy(t *testing.T, want bool, x impl.Complex, y impl.Complex, f tables, g tables, h tables) {
	t.Helper()
	name := fmt.Sprintf("IsHomotopy(%v, %v, %v, %v, %v)", x, y, f, g, h)
	expectResults(t, name, all(want, 0), all(impl.IsHomotopy(x, y, f, g, h)))
}

// plainIsHomotopy reports whether f less g is d h and h d together.
func plainIsHomotopy(x impl.Complex, y impl.Complex, f tables, g tables, h tables) bool {
	return fmt.Sprint(plainSum(x, y, f, g, x.Prime-1)) == fmt.Sprint(plainNull(x, y, h))
}

func TestHomotopiesByHand(t *testing.T) {
	// h leads 0, 1 to 2 times the upper vector of y, so that d h is 0, 2 to 0, 1 there, and h d is 4
	x, y := parsed(t, "5:2,1:02"), parsed(t, "5:1,1:1")
	h := tables{{{0}, {2}}, {{}}}
	f, zero := tables{{{0}, {2}}, {{4}}}, tables{{{0}, {0}}, {{0}}}
	expectHomotopy(t, true, x, y, f, zero, h)
	expectHomotopy(t, false, x, y, zero, f, h)
	expectHomotopy(t, true, x, y, zero, f, tables{{{0}, {3}}, {{}}})
	expectHomotopy(t, false, x, y, f, zero, tables{{{1}, {2}}, {{}}})
	expectHomotopic(t, true, x, y, f, zero)
	other := tables{{{0}, {0}}, {{1}}}
	expectCode(t, "IsHomotopy of no chain map", impl.ErrState, all(impl.IsHomotopy(x, y, other, zero, h)))
	// the upper vectors alone, of which none leads anywhere: h has no numbers there
	point := parsed(t, "5:0,1:-")
	expectHomotopic(t, false, point, point, tables{{}, {{1}}}, tables{{}, {{2}}})
	expectHomotopic(t, true, point, point, tables{{}, {{3}}}, tables{{}, {{3}}})
	expectHomotopy(t, true, point, point, tables{{}, {{3}}}, tables{{}, {{3}}}, tables{{}, {{}}})
	expectHomotopy(t, false, point, point, tables{{}, {{1}}}, tables{{}, {{2}}}, tables{{}, {{}}})
	// a complex without homology, of which the identity is homotopic to zeros
	line := parsed(t, "3:1,1:2")
	expectHomotopic(t, true, line, line, identityOf(t, line), zeroOf(t, line, line, 0))
	expectHomotopy(t, true, line, line, identityOf(t, line), zeroOf(t, line, line, 0), tables{{{2}}, {{}}})
	expectHomotopy(t, false, line, line, identityOf(t, line), zeroOf(t, line, line, 0), tables{{{1}}, {{}}})
}

// TestEqualRanksWithoutHomotopy has maps with the same ranks that lead to different homology.
func TestEqualRanksWithoutHomotopy(t *testing.T) {
	for _, p := range []int64{3, 5, 7} {
		x := complexOf(p, []int64{1, 0, 1}, nil, [][]int64{{}})
		for n := range int64(3) {
			f, g := zeroOf(t, x, x, 0), zeroOf(t, x, x, 0)
			if n == 1 {
				continue
			}
			f[n][0][0], g[n][0][0] = 1, p-1
			expectHomotopic(t, false, x, x, f, g)
			expectHomotopic(t, true, x, x, f, f)
			expectHomotopy(t, false, x, x, f, g, zeroOf(t, x, x, 1))
			expectHomotopy(t, true, x, x, f, f, zeroOf(t, x, x, 1))
		}
	}
}

// TestSmallHomotopiesAgainstAllFamilies tries all families h for each difference of chain maps.
func TestSmallHomotopiesAgainstAllFamilies(t *testing.T) {
	random := &numbers{state: 13}
	homotopic, others := 0, 0
	for _, e := range allSmallEnds() {
		x, y := e.x, e.y
		hs := allFamilies(x, y, 1)
		null := map[string]bool{}
		for _, h := range hs {
			null[fmt.Sprint(plainNull(x, y, h))] = true
		}
		maps := keepMaps(e, allFamilies(x, y, 0))
		for _, f := range maps {
			want := null[fmt.Sprint(f)]
			expectHomotopic(t, want, x, y, f, zeroOf(t, x, y, 0))
			g := maps[random.below(int64(len(maps)))]
			same := null[fmt.Sprint(plainSum(x, y, f, g, x.Prime-1))]
			expectHomotopic(t, same, x, y, f, g)
			if same {
				homotopic++
			} else {
				others++
			}
			found := false
			for _, h := range hs {
				yes := plainIsHomotopy(x, y, f, g, h)
				found = found || yes
				expectHomotopy(t, yes, x, y, f, g, h)
			}
			if found != same {
				t.Errorf("%v and %v between %v and %v: a homotopy %v, want %v", f, g, x, y, found, same)
			}
		}
	}
	if homotopic < 500 || others < 500 {
		t.Errorf("%d pairs are homotopic, %d are not", homotopic, others)
	}
}

func TestKnownHomotopies(t *testing.T) {
	random := &numbers{state: 14}
	wrong := 0
	for _, m := range knownMaps(4) {
		x, y := m.X.Complex, m.Y.Complex
		h := randomFamily(random, x, y, 1)
		g := plainSum(x, y, m.F, plainNull(x, y, h), x.Prime-1)
		expectHomotopy(t, true, x, y, m.F, g, h)
		expectHomotopic(t, true, x, y, m.F, g)
		expectHomotopic(t, true, x, y, m.F, m.F)
		expectHomotopy(t, true, x, y, m.F, m.F, zeroOf(t, x, y, 1))
		expectHomotopy(t, plainIsHomotopy(x, y, g, m.F, h), x, y, g, m.F, h)
		if other, ok := changed(random, x.Prime, h); ok {
			yes := plainIsHomotopy(x, y, m.F, g, other)
			expectHomotopy(t, yes, x, y, m.F, g, other)
			if !yes {
				wrong++
			}
		}
		for n, rank := range m.Ranks {
			expectResults(t, "InducedRank of "+m.name(), all(rank, 0), all(impl.InducedRank(x, y, g, int64(n))))
		}
	}
	if wrong < 100 {
		t.Errorf("%d changed homotopies are none", wrong)
	}
}

// TestMapsOfDifferentHomology adds, to a chain map, one that leads some homology to other than 0.
func TestMapsOfDifferentHomology(t *testing.T) {
	count := 0
	for _, m := range knownMaps(4) {
		x, y := m.X.Complex, m.Y.Complex
		zero := isZeroRow(m.Ranks)
		expectHomotopic(t, zero, x, y, m.F, zeroOf(t, x, y, 0))
		for k := int64(1); k < x.Prime; k++ {
			expectHomotopic(t, zero, x, y, m.F, added(t, x, y, m.F, m.F, k))
		}
		if !zero {
			count++
		}
	}
	if count < 100 {
		t.Errorf("%d maps with homology", count)
	}
}

// TestHomotopiesAreKeptByCompositions leads homotopic maps by a further one.
func TestHomotopiesAreKeptByCompositions(t *testing.T) {
	random := &numbers{state: 15}
	for _, m := range knownMaps(2) {
		next := movedFrom(random, m.Y)
		x, y, z := m.X.Complex, m.Y.Complex, next.Y.Complex
		g := plainSum(x, y, m.F, plainNull(x, y, randomFamily(random, x, y, 1)), 1)
		expectHomotopic(t, true, x, z, composed(t, x, y, z, m.F, next.F), composed(t, x, y, z, g, next.F))
	}
}
