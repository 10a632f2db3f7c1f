package tests

import (
	"fmt"
	"slices"
	"testing"

	"loop.example/g01273/impl"
)

// plainCoupleSum returns the sum of couples, also if it exceeds limits.
func plainCoupleSum(c impl.Couple, d impl.Couple) impl.Couple {
	sum := coupleOf(c.Prime, c.D+d.D, c.E+d.E, nil, nil, nil)
	besides := func(a [][]int64, left int64, b [][]int64, right int64) [][]int64 {
		table := [][]int64{}
		for _, row := range a {
			table = append(table, slices.Concat(row, make([]int64, right)))
		}
		for _, row := range b {
			table = append(table, slices.Concat(make([]int64, left), row))
		}
		return table
	}
	sum.I = besides(c.I, c.D, d.I, d.D)
	sum.J = besides(c.J, c.E, d.J, d.E)
	sum.K = besides(c.K, c.D, d.K, d.D)
	return sum
}

// randomCouple returns a couple of any tables.
func randomCouple(g *numbers, p int64, d int64, e int64) impl.Couple {
	return coupleOf(p, d, e, g.table(p, d, d), g.table(p, d, e), g.table(p, e, d))
}

func TestSumsOfCouplesByHand(t *testing.T) {
	c := coupleOf(7, 1, 2, [][]int64{{3}}, [][]int64{{4, 5}}, [][]int64{{6}, {2}})
	d := coupleOf(7, 2, 1, [][]int64{{1, 2}, {3, 4}}, [][]int64{{5}, {6}}, [][]int64{{2, 1}})
	sum := coupleOf(7, 3, 3, [][]int64{{3, 0, 0}, {0, 1, 2}, {0, 3, 4}}, [][]int64{{4, 5, 0}, {0, 0, 5}, {0, 0, 6}}, [][]int64{{6, 0, 0}, {2, 0, 0}, {0, 2, 1}})
	expectResults(t, "AddCouples", all(sum, 0), all(impl.AddCouples(c, d)))
	sum = coupleOf(7, 3, 3, [][]int64{{1, 2, 0}, {3, 4, 0}, {0, 0, 3}}, [][]int64{{5, 0, 0}, {6, 0, 0}, {0, 4, 5}}, [][]int64{{2, 1, 0}, {0, 0, 6}, {0, 0, 2}})
	expectResults(t, "AddCouples", all(sum, 0), all(impl.AddCouples(d, c)))
	nothing := impl.Couple{Prime: 7}
	expectResults(t, "AddCouples of nothing", all(nothing, 0), all(impl.AddCouples(nothing, nothing)))
	expectResults(t, "AddCouples ahead of nothing", all(c, 0), all(impl.AddCouples(c, nothing)))
	expectResults(t, "AddCouples behind nothing", all(c, 0), all(impl.AddCouples(nothing, c)))
}

// TestSumsOfCouples has sums of exact couples, which are exact and have the sums of all sizes, and of
// others, which are not.
func TestSumsOfCouples(t *testing.T) {
	g := &numbers{state: 57}
	list := smallerCouples(8)
	for at, k := range list {
		other := list[(at+7)%len(list)]
		if k.Prime != other.Prime {
			continue
		}
		name := k.name() + " and " + other.name()
		sum, code := impl.AddCouples(k.Couple, other.Couple)
		expectResults(t, "AddCouples "+name, all(plainCoupleSum(k.Couple, other.Couple), 0), all(sum, code))
		expectExactness(t, "sum "+name, true, sum)
		both := knownCouple{Couple: sum, Blocks: slices.Concat(k.Blocks, other.Blocks), Whole: k.Whole + other.Whole}
		expectKnownCouple(t, both)
		expectPages(t, name, sum)
		any := randomCouple(g, k.Prime, g.below(5), g.below(5))
		half, code := impl.AddCouples(k.Couple, any)
		expectResults(t, "AddCouples and any tables", all(plainCoupleSum(k.Couple, any), 0), all(half, code))
		expectExactness(t, "half exact sum", exactPlaces(any) == [3]bool{true, true, true}, half)
	}
}

func TestSumsOfCouplesAtTheirLimits(t *testing.T) {
	g := &numbers{state: 58}
	for _, p := range []int64{2, 7} {
		for _, s := range []struct{ d, e, d2, e2 int64 }{
			{24, 24, 0, 0}, {0, 0, 24, 24}, {12, 12, 12, 12}, {23, 1, 1, 23}, {24, 0, 0, 24}, {24, 24, 1, 0}, {24, 24, 0, 1}, {1, 0, 24, 0}, {0, 1, 0, 24},
			{12, 0, 13, 0}, {13, 24, 12, 0}, {0, 12, 24, 13}, {0, 13, 0, 12}, {24, 24, 24, 24}, {20, 20, 5, 4}, {20, 20, 4, 5}, {20, 20, 4, 4},
		} {
			c, d := randomCouple(g, p, s.d, s.e), randomCouple(g, p, s.d2, s.e2)
			want := all(plainCoupleSum(c, d), int64(impl.ErrNone))
			if s.d+s.d2 > 24 || s.e+s.e2 > 24 {
				want = all(impl.Couple{}, int64(impl.ErrLimit))
			}
			sum, code := impl.AddCouples(c, d)
			expectResults(t, fmt.Sprint("AddCouples ", s), want, all(sum, code))
			expectCode(t, fmt.Sprint("AddCouples ", s), want[1].(int64), all(sum, code))
		}
	}
}

// coupleFrom returns the couple of a chain map.
func coupleFrom(t *testing.T, x impl.Complex, f tables) impl.Couple {
	t.Helper()
	c, code := impl.CoupleOfMap(x, f)
	if code != impl.ErrNone {
		t.Fatalf("CoupleOfMap(%v, %v): code %d", x, f, code)
	}
	return c
}

func TestCouplesOfMapsByHand(t *testing.T) {
	// a point and a circle: the class of the degree 1 of the cone is that of the circle, that of the
	// degree 2 leads to it
	x := parsed(t, "3:1,1:0")
	c := coupleOf(3, 2, 2, [][]int64{{2, 0}, {0, 0}}, [][]int64{{0, 0}, {1, 0}}, [][]int64{{0, 0}, {0, 1}})
	expectResults(t, "CoupleOfMap", all(c, 0), all(impl.CoupleOfMap(x, tables{{{2}}, {{0}}})))
	c = coupleOf(3, 2, 2, [][]int64{{0, 0}, {0, 2}}, [][]int64{{1, 0}, {0, 0}}, [][]int64{{0, 0}, {1, 0}})
	expectResults(t, "CoupleOfMap", all(c, 0), all(impl.CoupleOfMap(x, tables{{{0}}, {{2}}})))
	// an edge with the ends 1, 0 and 0, 1, of which the first one is 3 times the second one in homology:
	// the class of the cone is 0, 1, 0, with the first end as its part
	x = parsed(t, "5:2,1:12")
	c = coupleOf(5, 1, 2, [][]int64{{0}}, [][]int64{{1, 0}}, [][]int64{{0}, {3}})
	expectResults(t, "CoupleOfMap of an edge", all(c, 0), all(impl.CoupleOfMap(x, tables{{{0, 0}, {1, 2}}, {{2}}})))
	c = coupleOf(5, 1, 0, [][]int64{{4}}, [][]int64{{}}, nil)
	expectResults(t, "CoupleOfMap of an edge", all(c, 0), all(impl.CoupleOfMap(x, tables{{{4, 0}, {0, 4}}, {{4}}})))
	// no homology at all
	expectResults(t, "CoupleOfMap of a line", all(impl.Couple{Prime: 7}, 0), all(impl.CoupleOfMap(parsed(t, "7:1,1:3"), tables{{{2}}, {{2}}})))
	expectResults(t, "CoupleOfMap of nothing", all(impl.Couple{Prime: 2}, 0), all(impl.CoupleOfMap(flatOf(2, 0), tables{{}})))
}

// expectCoupleOfMap checks the couple of a chain map, which keeps to the limits.
func expectCoupleOfMap(t *testing.T, name string, x impl.Complex, f tables) {
	t.Helper()
	c := coupleFrom(t, x, f)
	expectResults(t, "CoupleOfMap "+name, all(plainCouple(x, f)), all(c))
	expectExactness(t, "of the map "+name, true, c)
	expectExactRanks(t, "of the map "+name, c)
	holes, rank := int64(0), int64(0)
	for n, number := range homologyOf(t, x) {
		holes += number
		rank += rankAt(t, x, x, f, n)
	}
	expectResults(t, "D and E of the map "+name, all(holes, 2*(holes-rank)), all(c.D, c.E))
	expectResults(t, "RanksOf the couple of "+name, all([]int64{rank, holes - rank, holes - rank}, 0), all(impl.RanksOf(c)))
	if hasCone(x, x) {
		cone, code := impl.ConeOf(x, x, f)
		expectCode(t, "ConeOf "+name, impl.ErrNone, all(cone, code))
		sum := int64(0)
		for _, number := range homologyOf(t, cone) {
			sum += number
		}
		expectResults(t, "homology of the cone "+name, all(sum), all(c.E))
	}
	derived := derivedFrom(t, c)
	expectResults(t, "DerivedCouple of the map "+name, all(plainDerived(c)), all(derived))
	expectExactness(t, "derived of the map "+name, true, derived)
	expectPages(t, "of the map "+name, c)
}

// TestPlainHomologyLists checks the lists with which couples of maps are compared.
func TestPlainHomologyLists(t *testing.T) {
	for _, k := range knownComplexes(3) {
		for n := range k.Dims {
			want, code := impl.HomologyList(k.Complex, int64(n))
			expectCode(t, "HomologyList", impl.ErrNone, all(want, code))
			got, _ := plainHomologyList(k.Complex, int64(n))
			expectResults(t, fmt.Sprint("plainHomologyList ", k.Complex), all(want), all(got))
		}
	}
}

func TestCouplesOfSmallMaps(t *testing.T) {
	count := 0
	for _, s := range []struct {
		p    int64
		dims []int64
	}{
		{2, []int64{2}}, {2, []int64{1, 1}}, {2, []int64{2, 1}}, {2, []int64{1, 2}}, {2, []int64{1, 1, 1}}, {2, []int64{0, 2}}, {2, []int64{1, 0, 1}},
		{3, []int64{1}}, {3, []int64{1, 1}}, {3, []int64{1, 1, 1}}, {5, []int64{1, 1}}, {7, []int64{1, 1}}, {2, []int64{1, 1, 1, 1, 1, 1}},
	} {
		complexes, _ := smallComplexes(s.p, s.dims...)
		for _, x := range complexes {
			for _, f := range keepMaps(ends{x, x}, allFamilies(x, x, 0)) {
				expectCoupleOfMap(t, fmt.Sprintf("%v by %v", x, f), x, f)
				count++
			}
		}
	}
	if count < 500 {
		t.Errorf("%d maps", count)
	}
}

func TestCouplesOfKnownMaps(t *testing.T) {
	cones, several := 0, 0
	for _, m := range selfMaps(3) {
		holes, rank := sumOf(m.X.Holes), sumOf(m.Ranks)
		if holes > impl.MaxCouple || 2*(holes-rank) > impl.MaxCouple {
			expectCode(t, "CoupleOfMap "+m.name(), impl.ErrLimit, all(impl.CoupleOfMap(m.X.Complex, m.F)))
			continue
		}
		expectCoupleOfMap(t, m.name(), m.X.Complex, m.F)
		if !hasCone(m.X.Complex, m.X.Complex) {
			cones++
		}
		if r, _ := impl.StablePage(coupleFrom(t, m.X.Complex, m.F)); r > 2 {
			several++
		}
	}
	if cones < 20 || several < 20 {
		t.Errorf("%d cones that exceed limits, %d couples with several pages", cones, several)
	}
}

// sumOf returns the sum of numbers.
func sumOf(list []int64) int64 {
	sum := int64(0)
	for _, number := range list {
		sum += number
	}
	return sum
}

// TestCouplesOfIdentities has couples with E of 0 and I as the identity, up to the limit of D.
func TestCouplesOfIdentities(t *testing.T) {
	for _, k := range knownComplexes(4) {
		x, holes := k.Complex, sumOf(k.Holes)
		if holes > impl.MaxCouple {
			t.Fatalf("%v has %d holes", x, holes)
		}
		want := coupleOf(x.Prime, holes, 0, basisOf(holes), zeros(holes, 0), nil)
		expectResults(t, fmt.Sprint("CoupleOfMap of the identity of ", x), all(want, 0), all(impl.CoupleOfMap(x, identityOf(t, x))))
		expectResults(t, "StablePage of the identity", all(1, 0), all(impl.StablePage(coupleFrom(t, x, identityOf(t, x)))))
	}
}

// TestCouplesOfZeros has I of zeros, and twice as many classes in the cone, each one from x once.
func TestCouplesOfZeros(t *testing.T) {
	for _, k := range knownComplexes(2) {
		x, holes := k.Complex, sumOf(k.Holes)
		zero := zeroOf(t, x, x, 0)
		if 2*holes > impl.MaxCouple {
			expectCode(t, "CoupleOfMap of zeros", impl.ErrLimit, all(impl.CoupleOfMap(x, zero)))
			continue
		}
		c := coupleFrom(t, x, zero)
		expectCoupleOfMap(t, fmt.Sprintf("of zeros of %v", x), x, zero)
		expectResults(t, "I and E of zeros", all(zeros(holes, holes), 2*holes), all(c.I, c.E))
		expectResults(t, "PageSizes of zeros", all([]int64{2 * holes, 0}, 0), all(impl.PageSizes(c, 2)))
	}
}

// diagonalMap returns a complex with the differentials 0 and the map that leads the given number of its
// basis vectors to themselves, and the others to 0.
func diagonalMap(p int64, kept int64, dims ...int64) (impl.Complex, tables) {
	x := flatOf(p, dims...)
	f := familyBy(x, func(_ int64, v []int64) []int64 {
		kept--
		if kept < 0 {
			return make([]int64, len(v))
		}
		return v
	})
	return x, f
}

// TestCouplesOfMapsAtTheirLimits has D and E of MaxCouple and more. E is an even number always.
func TestCouplesOfMapsAtTheirLimits(t *testing.T) {
	for _, p := range []int64{2, 5} {
		for _, c := range []struct {
			kept int64
			dims []int64
			fits bool
		}{
			{24, []int64{8, 8, 8}, true}, {12, []int64{8, 8, 8}, true}, {11, []int64{8, 8, 8}, false}, {0, []int64{4, 8}, true}, {0, []int64{5, 8}, false},
			{25, []int64{8, 8, 8, 1}, false}, {25, []int64{1, 8, 8, 8}, false}, {13, []int64{8, 8, 8, 1}, false}, {12, []int64{4, 4, 4, 4, 4, 4}, true},
			{11, []int64{4, 4, 4, 4, 4, 4}, false}, {11, []int64{3, 4, 4, 4, 4, 4}, true}, {24, []int64{0, 0, 0, 8, 8, 8}, true}, {48, []int64{8, 8, 8, 8, 8, 8}, false},
			{0, []int64{8, 8, 8, 8, 8, 8}, false}, {0, []int64{0, 0, 0, 0, 4, 8}, true}, {0, []int64{2, 2, 2, 2, 2, 2}, true}, {0, []int64{2, 2, 2, 2, 2, 3}, false},
		} {
			x, f := diagonalMap(p, c.kept, c.dims...)
			name := fmt.Sprintf("modulo %d with %v", p, c)
			if c.fits {
				expectCoupleOfMap(t, name, x, f)
			} else {
				expectCode(t, "CoupleOfMap "+name, impl.ErrLimit, all(impl.CoupleOfMap(x, f)))
			}
		}
	}
}

// TestCouplesOfGreatCones has cones with too many degrees and the dimension 16, but few classes.
func TestCouplesOfGreatCones(t *testing.T) {
	g := &numbers{state: 59}
	for _, p := range []int64{2, 3, 5, 7} {
		x := known{Ranks: []int64{0, 2, 5, 1, 6, 1, 0}, Holes: []int64{6, 1, 2, 1, 1, 7}}
		for _, rank := range []int64{0, 3, 6} {
			m := selfMap(g, p, x, func(n int) [][]int64 {
				table := g.square(p, x.Holes[n])
				for i := rank; i < x.Holes[n]; i++ {
					table[i] = make([]int64, x.Holes[n])
				}
				return table
			})
			expectResults(t, "Dims", all([]int64{8, 8, 8, 8, 8, 8}), all(m.X.Dims))
			holes, ranks := sumOf(m.X.Holes), sumOf(m.Ranks)
			if 2*(holes-ranks) > impl.MaxCouple {
				expectCode(t, "CoupleOfMap "+m.name(), impl.ErrLimit, all(impl.CoupleOfMap(m.X.Complex, m.F)))
			} else {
				expectCoupleOfMap(t, m.name(), m.X.Complex, m.F)
			}
		}
	}
}

// TestHomotopicMapsHaveTheSameI has maps that differ by what leads homology to 0.
func TestHomotopicMapsHaveTheSameI(t *testing.T) {
	g := &numbers{state: 60}
	for _, m := range selfMaps(1) {
		x := m.X.Complex
		other := plainSum(x, x, m.F, plainNull(x, x, randomFamily(g, x, x, 1)), 1)
		c, code := impl.CoupleOfMap(x, m.F)
		d, same := impl.CoupleOfMap(x, other)
		expectResults(t, "I of homotopic maps "+m.name(), all(c.D, c.E, c.I, code), all(d.D, d.E, d.I, same))
	}
}
