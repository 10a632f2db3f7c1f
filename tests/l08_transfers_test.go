package tests

import (
	"fmt"
	"slices"
	"testing"

	"loop.example/g01273/impl"
)

// expectPerturbation checks what the functions on perturbations say of a list like Maps, and returns
// whether it is one.
func expectPerturbation(t *testing.T, x impl.Complex, maps tables) bool {
	t.Helper()
	name := fmt.Sprintf("(%v, %v)", x, maps)
	perturbed := plainPerturbed(x, maps)
	yes := plainIsComplex(perturbed)
	expectResults(t, "IsPerturbation"+name, all(yes, 0), all(impl.IsPerturbation(x, maps)))
	if !yes {
		expectCode(t, "PerturbedComplex"+name, impl.ErrState, all(impl.PerturbedComplex(x, maps)))
		return false
	}
	got, code := impl.PerturbedComplex(x, maps)
	expectResults(t, "PerturbedComplex"+name, all(perturbed, 0), all(got, code))
	if !impl.IsComplex(got) {
		t.Errorf("PerturbedComplex%s = %v is no complex", name, got)
	}
	return true
}

// expectTransfer checks the rounds and the transferred complex of a contraction and a list like Maps: that
// they are those found plainly, and that the homology numbers are those of the perturbed complex. It
// returns the rounds, -1 if there are none.
func expectTransfer(t *testing.T, k contractedTo) int64 {
	t.Helper()
	rounds, ok := plainRounds(k.X, k.C, k.E)
	if !expectPerturbation(t, k.X, k.E) || !ok {
		expectCode(t, "RoundsOf "+k.name(), impl.ErrState, all(impl.RoundsOf(k.X, k.C, k.E)))
		expectCode(t, "TransferredComplex "+k.name(), impl.ErrState, all(impl.TransferredComplex(k.X, k.C, k.E)))
		return -1
	}
	expectResults(t, "RoundsOf "+k.name(), all(rounds, 0), all(impl.RoundsOf(k.X, k.C, k.E)))
	small, code := impl.TransferredComplex(k.X, k.C, k.E)
	expectResults(t, "TransferredComplex "+k.name(), all(plainTransferred(k.X, k.C, k.E), 0), all(small, code))
	perturbed, _ := impl.PerturbedComplex(k.X, k.E)
	if !impl.IsComplex(small) || !slices.Equal(small.Dims, homologyOf(t, k.X)) || !slices.Equal(homologyOf(t, small), homologyOf(t, perturbed)) {
		t.Errorf("TransferredComplex %s = %v, of %v", k.name(), small, perturbed)
	}
	return rounds
}

func TestTransfersByHand(t *testing.T) {
	// an edge with other ends: the boundary 1, 2 becomes 2, 2, and e of Back leads 1, 2 to 1, 0, that is
	// once the boundary and once the hole, and so never to 0
	x := parsed(t, "3:2,1:12")
	split := splitOf(t, x)
	perturbed := parsed(t, "3:2,1:22")
	expectResults(t, "PerturbedComplex", all(perturbed, 0), all(impl.PerturbedComplex(x, tables{{{1, 0}}})))
	expectResults(t, "RoundsOf", all(0, impl.ErrState), all(impl.RoundsOf(x, split, tables{{{1, 0}}})))
	// the boundary becomes 1, 0: e of Back leads 1, 0 to 0, 1, and this one to 0
	expectResults(t, "RoundsOf", all(2, 0), all(impl.RoundsOf(x, split, tables{{{0, 1}}})))
	expectResults(t, "TransferredComplex", all(flatOf(3, 1, 0), 0), all(impl.TransferredComplex(x, split, tables{{{0, 1}}})))
	// a circle, of which the perturbation leads one hole to the other one: Back is 0, so that one round is enough
	x = parsed(t, "5:1,1:0")
	expectResults(t, "RoundsOf", all(1, 0), all(impl.RoundsOf(x, splitOf(t, x), tables{{{3}}})))
	expectResults(t, "TransferredComplex", all(parsed(t, "5:1,1:3"), 0), all(impl.TransferredComplex(x, splitOf(t, x), tables{{{3}}})))
}

// TestSignsOfTransfers leads a hole to a hole by 0, 1, 2 and 3 detours: through vectors of which the first
// one is a boundary of a vector that leads to the next one, with a sign for each detour.
func TestSignsOfTransfers(t *testing.T) {
	for _, p := range usualPrimes {
		for detours := range int64(4) {
			for shift := range int64(2) {
				k := known{Ranks: make([]int64, 3+shift), Holes: make([]int64, 2+shift)}
				k.Ranks[1+shift], k.Holes[shift], k.Holes[1+shift] = detours, 1, 1
				c := contractedOf(p, k)
				// below, the hole is behind the boundaries; above, it is ahead of the vectors that lead to these,
				// in the reverse order
				from := int64(0)
				for to := range detours + 1 {
					c.E[shift][from][to] = 1
					from = detours - to
				}
				want := flatOf(p, k.Holes...)
				want.Maps[shift] = [][]int64{{withSign(p, detours, 1)}}
				name := fmt.Sprintf(" with %d detours: %s", detours, c.name())
				expectResults(t, "RoundsOf"+name, all(detours+1, 0), all(impl.RoundsOf(c.X, c.C, c.E)))
				expectResults(t, "TransferredComplex"+name, all(want, 0), all(impl.TransferredComplex(c.X, c.C, c.E)))
				expectTransfer(t, c)
			}
		}
	}
}

// expectZeroMaps checks that zeros change nothing, with a contraction.
func expectZeroMaps(t *testing.T, x impl.Complex, c impl.Contraction) {
	t.Helper()
	maps, code := impl.ZeroMaps(x)
	expectResults(t, fmt.Sprintf("ZeroMaps(%v)", x), all(zeroMapsOf(x), 0), all(maps, code))
	want := int64(1)
	if isZeroRow(x.Dims) {
		want = 0
	}
	expectResults(t, "IsPerturbation of zeros", all(true, 0), all(impl.IsPerturbation(x, maps)))
	expectResults(t, "PerturbedComplex of zeros", all(x, 0), all(impl.PerturbedComplex(x, maps)))
	expectResults(t, fmt.Sprintf("RoundsOf(%v, %v) of zeros", x, c), all(want, 0), all(impl.RoundsOf(x, c, maps)))
	expectResults(t, "TransferredComplex of zeros", all(flatOf(x.Prime, homologyOf(t, x)...), 0), all(impl.TransferredComplex(x, c, maps)))
}

func TestZeroMapsChangeNothing(t *testing.T) {
	for _, x := range splitComplexes(3) {
		expectZeroMaps(t, x, splitOf(t, x))
	}
	for _, k := range slices.Concat(contractions(3, 3, 4), contractions(2, 1, 2), contractions(2, 2, 1)) {
		expectZeroMaps(t, k.X, k.C)
	}
	for _, p := range usualPrimes { // without vectors
		for top := range impl.MaxTop + 1 {
			x := flatOf(p, make([]int64, top+1)...)
			nothing := impl.Contraction{Down: make(tables, top+1), Up: make(tables, top+1), Back: make(tables, top+1)}
			expectResults(t, "RoundsOf nothing", all(0, 0), all(impl.RoundsOf(x, nothing, make(tables, top))))
			expectResults(t, "TransferredComplex of nothing", all(x, 0), all(impl.TransferredComplex(x, nothing, make(tables, top))))
		}
	}
}

// TestSmallTransfers tries all lists like the Maps of small complexes, with the split contractions.
func TestSmallTransfers(t *testing.T) {
	shapes := map[int64][][]int64{
		2: {{0}, {2}, {1, 1}, {0, 2}, {1, 1, 1}, {2, 1}, {1, 2}, {2, 2}, {1, 2, 1}, {2, 1, 1}, {1, 1, 1, 1}, {1, 0, 1, 1}},
		3: {{1, 1}, {2, 1}, {1, 2}, {1, 1, 1}}, 5: {{1, 1}, {1, 1, 1}}, 7: {{1, 1}, {1, 1, 1}},
	}
	none, never, seen := 0, 0, map[int64]int{}
	for _, p := range usualPrimes {
		for _, dims := range shapes[p] {
			complexes, _ := smallComplexes(p, dims...)
			for _, x := range complexes {
				c := splitOf(t, x)
				for _, maps := range allLike(x) {
					rounds := expectTransfer(t, contractedTo{x, c, maps})
					if rounds >= 0 {
						seen[rounds]++
					} else if plainIsComplex(plainPerturbed(x, maps)) {
						never++
					} else {
						none++
					}
				}
			}
		}
	}
	if none < 500 || never < 500 || seen[0] < 1 || seen[1] < 200 || seen[2] < 60 {
		t.Errorf("%d are no perturbations, %d have no rounds, and others %v", none, never, seen)
	}
}

// TestSmallTransfersByAllContractions tries all contractions together with all perturbations, and checks
// that all of those with rounds lead to the same homology numbers.
func TestSmallTransfersByAllContractions(t *testing.T) {
	differ := 0
	for _, x := range smallOnes() {
		split := fmt.Sprint(splitOf(t, x))
		candidates := slices.DeleteFunc(allCandidates(x), func(c impl.Contraction) bool { return len(failing(x, c)) > 0 })
		for _, maps := range allLike(x) {
			found := map[int64]bool{}
			for at, c := range candidates {
				if at < 12 || fmt.Sprint(c) == split {
					found[expectTransfer(t, contractedTo{x, c, maps})] = true
				}
			}
			if len(found) > 1 {
				differ++
			}
		}
	}
	if differ < 30 {
		t.Errorf("%d perturbations have other rounds with other contractions", differ)
	}
}

// TestTransfersByLevels has perturbations that lead to lower levels: with the split contractions, and with
// changed bases.
func TestTransfersByLevels(t *testing.T) {
	seen, moved := [impl.MaxLevel + 2]int{}, 0
	for at, k := range perturbedByLevels(8) {
		rounds := expectTransfer(t, k)
		if rounds < 0 || rounds > impl.MaxLevel+1 {
			t.Fatalf("%s has %d rounds", k.name(), rounds)
		}
		seen[rounds]++
		small, _ := impl.TransferredComplex(k.X, k.C, k.E)
		if fmt.Sprint(small) != fmt.Sprint(flatOf(small.Prime, small.Dims...)) {
			moved++
		}
		// changed bases change no rounds, but the contraction may be none that is split off
		if at%2 == 1 {
			expectTransfer(t, contractedTo{k.X, splitOf(t, k.X), k.E})
		}
	}
	if moved < 100 || slices.Min(seen[:6]) < 10 {
		t.Errorf("%d transferred differentials are not 0, and there are %v rounds", moved, seen)
	}
}

// TestRoundsAtTheirLimits has all numbers of rounds that there are. E of Back leads each degree to itself,
// and so it is 0 after as many times as the degree has dimensions, or never: MaxRounds is not reached.
func TestRoundsAtTheirLimits(t *testing.T) {
	g := &numbers{state: 107}
	for _, p := range usualPrimes {
		for _, top := range []int64{1, 3, impl.MaxTop} {
			for rounds := int64(1); rounds <= impl.MaxDim; rounds++ {
				for _, dim := range []int64{rounds, impl.MaxDim} {
					n := g.below(top)
					k := chainOfRounds(p, top, n, dim, rounds)
					if got := expectTransfer(t, k); got != rounds {
						t.Errorf("%s has %d rounds, want %d", k.name(), got, rounds)
					}
					if got := expectTransfer(t, k.mix(g, 40)); got != rounds {
						t.Errorf("%s has %d rounds, want %d", k.name(), got, rounds)
					}
				}
			}
			// the first vector led to the last one: e of Back goes around
			for dim := int64(1); dim <= impl.MaxDim; dim++ {
				n := g.below(top)
				k := chainOfRounds(p, top, n, dim, dim)
				k.E[n][dim-1][dim-1] = 1
				for range 2 {
					expectResults(t, "IsPerturbation", all(true, 0), all(impl.IsPerturbation(k.X, k.E)))
					expectCode(t, "RoundsOf what goes around", impl.ErrState, all(impl.RoundsOf(k.X, k.C, k.E)))
					expectCode(t, "TransferredComplex of what goes around", impl.ErrState, all(impl.TransferredComplex(k.X, k.C, k.E)))
					k.mix(g, 40)
				}
			}
		}
	}
}

// TestRoundsAreThoseOfTheLongestDegree has chains of different rounds in different degrees.
func TestRoundsAreThoseOfTheLongestDegree(t *testing.T) {
	for _, p := range usualPrimes {
		for a := int64(1); a <= 8; a++ {
			for b := int64(1); b <= 8; b++ {
				first, second := chainOfRounds(p, 5, 0, 8, a), chainOfRounds(p, 5, 3, 8, b)
				k := contractedOf(p, known{Ranks: []int64{0, 8, 0, 0, 8, 0, 0}, Holes: make([]int64, 6)})
				k.E[0], k.E[3] = first.E[0], second.E[3]
				expectResults(t, "RoundsOf "+k.name(), all(max(a, b), 0), all(impl.RoundsOf(k.X, k.C, k.E)))
				k.E[3][7][7] = 1
				if b == 8 {
					expectCode(t, "RoundsOf "+k.name(), impl.ErrState, all(impl.RoundsOf(k.X, k.C, k.E)))
				}
			}
		}
	}
}

// TestPerturbationsToOtherComplexes perturbs complexes to other ones of the same dimensions, to zeros
// alone, and to what is no complex.
func TestPerturbationsToOtherComplexes(t *testing.T) {
	g := &numbers{state: 108}
	with, without, none := 0, 0, 0
	for _, p := range usualPrimes {
		for top := range int64(impl.MaxTop + 1) {
			for range 24 {
				parts := randomParts(g, top, 3, 3)
				k := contractedOf(p, parts).mix(g, 60)
				other := contractedOf(p, parts).mix(g, 1+int(g.below(3)))
				k.E = differenceOf(k.X, other.X)
				if expectTransfer(t, k) >= 0 {
					with++
				} else {
					without++
				}
				near := contractedTo{X: copyOf(k.X), C: splitOf(t, k.X)}
				moved := contractedTo{copyOf(k.X), splitOf(t, k.X), zeroMapsOf(k.X)}.mix(g, 2)
				near.E = differenceOf(near.X, moved.X)
				if expectTransfer(t, near) >= 0 {
					with++
				} else {
					without++
				}
				if list, ok := changed(g, p, k.E); ok && !expectPerturbation(t, k.X, list) {
					expectTransfer(t, contractedTo{k.X, k.C, list})
					none++
				}
			}
		}
	}
	if with < 100 || without < 100 || none < 100 {
		t.Errorf("%d perturbations have rounds, %d have none, %d lists are no perturbations", with, without, none)
	}
}

// TestPerturbationsToZeros takes all differentials away: e of Back takes each boundary away from itself, so
// that there are no rounds, if there are boundaries at all.
func TestPerturbationsToZeros(t *testing.T) {
	for _, k := range slices.Concat(contractions(4, 3, 3), contractions(2, 3, 1)) {
		flat := flatOf(k.X.Prime, k.X.Dims...)
		maps := differenceOf(k.X, flat)
		expectResults(t, "IsPerturbation", all(true, 0), all(impl.IsPerturbation(k.X, maps)))
		expectResults(t, "PerturbedComplex", all(flat, 0), all(impl.PerturbedComplex(k.X, maps)))
		if fmt.Sprint(k.X) != fmt.Sprint(flat) {
			expectCode(t, "RoundsOf "+k.name(), impl.ErrState, all(impl.RoundsOf(k.X, k.C, maps)))
			expectCode(t, "TransferredComplex "+k.name(), impl.ErrState, all(impl.TransferredComplex(k.X, k.C, maps)))
		}
		// and back: Back of zeros is 0, and the homology complex is the complex itself
		one := splitOf(t, flat)
		want := int64(1)
		if isZeroRow(flat.Dims) {
			want = 0
		}
		expectResults(t, "RoundsOf", all(want, 0), all(impl.RoundsOf(flat, one, k.X.Maps)))
		expectResults(t, "TransferredComplex", all(k.X, 0), all(impl.TransferredComplex(flat, one, k.X.Maps)))
	}
}

// TestHomologyOfTransfersByLevels has perturbed complexes of which the homology numbers are known.
func TestHomologyOfTransfersByLevels(t *testing.T) {
	for _, f := range knownFiltereds(6) {
		k := byLevels(f.Filtered)
		expectResults(t, "PerturbedComplex", all(f.Complex, 0), all(impl.PerturbedComplex(k.X, k.E)))
		small, code := impl.TransferredComplex(k.X, k.C, k.E)
		expectCode(t, "TransferredComplex", impl.ErrNone, all(small, code))
		var first, last []int64
		for n := range int64(len(f.Levels)) {
			here := func(a piece) bool { return a.Degree == n }
			first = append(first, f.count(func(a piece) bool { return a.Birth != a.Death && (here(a) || a.Degree == n-1 && a.Death >= 0) }))
			last = append(last, f.count(func(a piece) bool { return here(a) && a.Death < 0 }))
		}
		expectResults(t, "dimensions of the transferred complex of "+k.name(), all(first), all(small.Dims))
		expectResults(t, "homology of the transferred complex of "+k.name(), all(last), all(homologyOf(t, small)))
	}
}
