package tests

import (
	"fmt"
	"slices"
	"testing"

	"loop.example/g01273/impl"
)

// filteredBy returns the filtered complex of an algebra.
func filteredBy(t *testing.T, a impl.Dga) impl.Filtered {
	t.Helper()
	x, code := impl.FilteredOf(a)
	expectCode(t, "FilteredOf", impl.ErrNone, all(x, code))
	return x
}

func TestFilteredComplexesByHand(t *testing.T) {
	disc := filteredBy(t, namedDga(t, "disc", 5))
	expectResults(t, "FilteredOf disc", all(leveled(t, "5:2,2:01,00", []int64{0, 1}, []int64{1, 2})), all(disc))
	torus := filteredBy(t, namedDga(t, "torus", 3))
	expectResults(t, "FilteredOf torus", all(leveled(t, "3:1,2,1:0,0;00", []int64{0}, []int64{1, 1}, []int64{2})), all(torus))
	point := filteredBy(t, namedDga(t, "point", 7))
	expectResults(t, "FilteredOf point", all(leveled(t, "7:1:", []int64{0})), all(point))
	sphere := filteredBy(t, algebraOf(2, []int64{0, 5}, []int64{0, 5}, nil))
	expectResults(t, "FilteredOf a sphere", all(leveled(t, "2:1,0,0,0,0,1:-;-;-;-;-", []int64{0}, nil, nil, nil, nil, []int64{5})), all(sphere))
	eight := filteredBy(t, algebraOf(2, make([]int64, 8), []int64{0, 5, 4, 3, 2, 1, 0, 5}, nil))
	expectResults(t, "FilteredOf eight", all(leveled(t, "2:8:", []int64{0, 5, 4, 3, 2, 1, 0, 5})), all(eight))
}

func TestFilteredComplexesOfSamples(t *testing.T) {
	for _, s := range allSamples(4) {
		x := filteredBy(t, s.Dga)
		expectResults(t, "FilteredOf "+s.String(), all(plainFiltered(s.Dga)), all(x))
		if !impl.IsFiltered(x) {
			t.Errorf("%v: %v is no filtered complex", s, x)
		}
		expectResults(t, "HomologySizes "+s.String(), all(impl.HomologyNumbers(x.Complex)), all(impl.HomologySizes(s.Dga)))
	}
}

func TestHomologyProductsByHand(t *testing.T) {
	for _, p := range usualPrimes {
		filled := sampleOf(p, "a hole beside a product that is filled").Dga
		for _, c := range []struct {
			a          impl.Dga
			n, i, m, j int64
			want       []int64
		}{
			{namedDga(t, "point", p), 0, 0, 0, 0, []int64{1}},
			{namedDga(t, "circle", p), 0, 0, 1, 0, []int64{1}},
			{namedDga(t, "circle", p), 1, 0, 1, 0, []int64{}},
			{namedDga(t, "torus", p), 1, 0, 1, 1, []int64{1}},
			{namedDga(t, "torus", p), 1, 1, 1, 0, []int64{p - 1}},
			{namedDga(t, "torus", p), 1, 0, 1, 0, []int64{0}},
			{namedDga(t, "torus", p), 0, 0, 1, 1, []int64{0, 1}},
			{namedDga(t, "torus", p), 1, 0, 0, 0, []int64{1, 0}},
			{namedDga(t, "torus", p), 2, 0, 0, 0, []int64{1}},
			{namedDga(t, "torus", p), 1, 0, 2, 0, []int64{}},
			{namedDga(t, "torus", p), 2, 0, 2, 0, []int64{}},
			{namedDga(t, "disc", p), 0, 0, 0, 0, []int64{1}},
			{namedDga(t, "disc", p), 1, 0, 0, 0, []int64{1}},
			{namedDga(t, "disc", p), 1, 0, 1, 0, []int64{}},
			{filled, 1, 0, 1, 1, []int64{0}}, // a boundary beside a hole
			{filled, 1, 0, 2, 0, []int64{}},  // no holes of the degree 3
			{filled, 2, 0, 2, 0, []int64{}},  // beyond the top
		} {
			expectResults(t, fmt.Sprintf("HomologyProduct(%v, %d, %d, %d, %d)", c.a, c.n, c.i, c.m, c.j), all(c.want, 0), all(impl.HomologyProduct(c.a, c.n, c.i, c.m, c.j)))
		}
	}
}

// plainHomologyProduct returns the numbers of the homology product, by an elimination of its own.
func plainHomologyProduct(a impl.Dga, n int64, i int64, m int64, j int64) []int64 {
	x := plainFiltered(a).Complex
	if n+m >= int64(len(x.Dims)) {
		return []int64{}
	}
	first, _ := plainHomologyList(x, n)
	second, _ := plainHomologyList(x, m)
	product := plainMultiply(a, elementWith(a, first[i], n), elementWith(a, second[j], m))
	classes, bottom := plainHomologyList(x, n+m)
	return plainClass(a.Prime, x.Dims[n+m], classes, bottom, rowAt(a, product, n+m))
}

// TestHomologyProductsOfSamples has all products of all holes.
func TestHomologyProductsOfSamples(t *testing.T) {
	others, tops, beyond := 0, 0, 0
	for _, s := range allSamples(1) {
		top := int64(len(s.holes)) - 1
		for n := range top + 1 {
			for m := range top + 1 {
				for i := range s.holes[n] {
					for j := range s.holes[m] {
						want := plainHomologyProduct(s.Dga, n, i, m, j)
						expectResults(t, fmt.Sprintf("HomologyProduct(%v, %d, %d, %d, %d)", s, n, i, m, j), all(want, 0), all(impl.HomologyProduct(s.Dga, n, i, m, j)))
						if n > 0 && m > 0 && !isZeroRow(want) {
							others++
						}
						if n+m == top {
							tops++
						} else if n+m > top {
							beyond++
						}
					}
				}
			}
		}
	}
	if others < 60 || tops < 500 || beyond < 300 {
		t.Errorf("%d products of greater degrees, %d of the top, %d beyond", others, tops, beyond)
	}
}

// timesUnit adds up the products of the numbers of the unit, told by a function for each of them.
func timesUnit(p int64, size int64, unit []int64, productWith func(k int64) []int64) []int64 {
	sum := make([]int64, size)
	for k, factor := range unit {
		sum = sumOfRows(p, sum, factor, productWith(int64(k)))
	}
	return sum
}

// TestHomologyProductsWithTheUnit has the unit as a sum of holes of the degree 0: it need not be one of
// them.
func TestHomologyProductsWithTheUnit(t *testing.T) {
	moved := 0
	list := allSamples(2)
	for _, p := range usualPrimes {
		// the unit and t together are a boundary, and the only hole is t times -1, up to it
		list = append(list, sample{algebraOf(p, []int64{0, 0, 1, 1}, []int64{0, 0, 1, 1}, []product{{1, 1, 1, -1}, {1, 3, 3, -1}, {3, 1, 3, -1}}, step{2, 0, 1}, step{2, 1, 1}), "the unit as another hole", true, []int64{1, 1}})
	}
	for _, s := range list {
		if !impl.IsDga(s.Dga) {
			t.Fatalf("%v is no algebra: %v", s, brokenConditions(s.Dga))
		}
		x := plainFiltered(s.Dga).Complex
		classes, bottom := plainHomologyList(x, 0)
		unit := plainClass(s.Prime, x.Dims[0], classes, bottom, rowAt(s.Dga, unitAt(0), 0))
		if len(classes) > 0 && !slices.Equal(classes[0], rowAt(s.Dga, unitAt(0), 0)) {
			moved++
		}
		for n, holes := range s.holes {
			for i, want := range basisOf(holes) {
				left := timesUnit(s.Prime, holes, unit, func(k int64) []int64 {
					numbers, _ := impl.HomologyProduct(s.Dga, 0, k, int64(n), int64(i))
					return numbers
				})
				right := timesUnit(s.Prime, holes, unit, func(k int64) []int64 {
					numbers, _ := impl.HomologyProduct(s.Dga, int64(n), int64(i), 0, k)
					return numbers
				})
				if !slices.Equal(left, want) || !slices.Equal(right, want) {
					t.Errorf("%v: the hole %d of the degree %d times the unit: %v and %v", s, i, n, left, right)
				}
			}
		}
	}
	if moved < 4 {
		t.Errorf("%d units are no holes", moved)
	}
}

// TestTransfersOfAlgebras perturbs the complexes of algebras: by all differentials, and by those that lead
// to lower levels. What is transferred has the homology sizes of the algebra.
func TestTransfersOfAlgebras(t *testing.T) {
	moved, rounds := 0, map[int64]int{}
	list := allSamples(6)
	for _, p := range usualPrimes {
		for _, s := range namedByHand(p) {
			if other := sampleOf(p, "circle"); s.Size < 4 || s.name == "disc" {
				list = append(list, sample{tensorDga(t, s.Dga, other.Dga), s.name + " and circle", true, kuennethNumbers(s.holes, other.holes)})
			}
		}
	}
	for _, s := range list {
		x := filteredBy(t, s.Dga)
		flat := flatOf(s.Prime, x.Complex.Dims...)
		for _, k := range []contractedTo{byLevels(x), {flat, splitOf(t, flat), x.Complex.Maps}} {
			rounds[expectTransfer(t, k)]++
			small, code := impl.TransferredComplex(k.X, k.C, k.E)
			expectCode(t, "TransferredComplex", impl.ErrNone, all(small, code))
			sizes, _ := impl.HomologySizes(s.Dga)
			expectResults(t, "homology of the transferred complex of "+s.String(), all(sizes), all(homologyOf(t, small)))
			if !slices.Equal(small.Dims, sizes) {
				moved++
			}
		}
	}
	if moved < 60 || rounds[1] < 100 || rounds[2] < 3 {
		t.Errorf("%d transferred differentials are not 0, %v rounds", moved, rounds)
	}
}
