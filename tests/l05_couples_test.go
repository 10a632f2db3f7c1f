package tests

import (
	"fmt"
	"slices"
	"testing"

	"loop.example/g01273/impl"
)

// coupleOf returns a couple, or what is none, by its fields.
func coupleOf(p int64, d int64, e int64, i [][]int64, j [][]int64, k [][]int64) impl.Couple {
	return impl.Couple{Prime: p, D: d, E: e, I: i, J: j, K: k}
}

// expectExactness checks that IsExact has the wanted result for a couple.
func expectExactness(t *testing.T, name string, want bool, c impl.Couple) {
	t.Helper()
	if !impl.IsCouple(c) {
		t.Errorf("%s: %v is no couple", name, c)
	}
	expectResults(t, "IsExact "+name, all(want, 0), all(impl.IsExact(c)))
}

// derivedFrom returns the derived couple of an exact one.
func derivedFrom(t *testing.T, c impl.Couple) impl.Couple {
	t.Helper()
	derived, code := impl.DerivedCouple(c)
	if code != impl.ErrNone {
		t.Fatalf("DerivedCouple(%v): code %d", c, code)
	}
	return derived
}

// ranksFrom returns the ranks of I, J and K.
func ranksFrom(t *testing.T, c impl.Couple) []int64 {
	t.Helper()
	ranks, code := impl.RanksOf(c)
	if code != impl.ErrNone || len(ranks) != 3 {
		t.Fatalf("RanksOf(%v) = %v, %d", c, ranks, code)
	}
	return ranks
}

// differentialIn returns the table of the differential of a couple.
func differentialIn(t *testing.T, c impl.Couple) [][]int64 {
	t.Helper()
	table, code := impl.CoupleDifferential(c)
	if code != impl.ErrNone || int64(len(table)) != c.E {
		t.Fatalf("CoupleDifferential(%v) = %v, %d", c, table, code)
	}
	return table
}

// expectExactRanks checks that the ranks of an exact couple add up to its dimensions, and that its
// differential twice is 0.
func expectExactRanks(t *testing.T, name string, c impl.Couple) {
	t.Helper()
	ranks := ranksFrom(t, c)
	if ranks[0]+ranks[1] != c.D || ranks[1]+ranks[2] != c.E || ranks[2]+ranks[0] != c.D {
		t.Errorf("RanksOf %s = %v for %d and %d", name, ranks, c.D, c.E)
	}
	table := differentialIn(t, c)
	for _, row := range table {
		if !isZeroRow(timesTable(c.Prime, row, table, c.E)) {
			t.Errorf("CoupleDifferential %s = %v is not 0 twice", name, table)
		}
	}
}

func TestLimitsOfCouples(t *testing.T) {
	expectResults(t, "limits", all(24, 12), all(impl.MaxCouple, impl.MaxDerive))
}

// TestTwoVectorsByHand has one block of two vectors, with 1, 2 as its first one.
func TestTwoVectorsByHand(t *testing.T) {
	c := coupleOf(5, 2, 2, [][]int64{{1, 2}, {2, 4}}, [][]int64{{3, 4}, {1, 3}}, [][]int64{{3, 1}, {4, 3}})
	expectExactness(t, "of two vectors", true, c)
	expectResults(t, "RanksOf", all([]int64{1, 1, 1}, 0), all(impl.RanksOf(c)))
	expectResults(t, "CoupleDifferential", all(zeros(2, 2), 0), all(impl.CoupleDifferential(c)))
	// I makes 1, 2 of 1, 0, and J makes 3, 4 of it
	d := coupleOf(5, 1, 2, [][]int64{{0}}, [][]int64{{3, 4}}, [][]int64{{3}, {4}})
	expectResults(t, "DerivedCouple", all(d, 0), all(impl.DerivedCouple(c)))
	expectResults(t, "CoupleDifferential", all([][]int64{{4, 2}, {2, 1}}, 0), all(impl.CoupleDifferential(d)))
	expectResults(t, "RanksOf", all([]int64{0, 1, 1}, 0), all(impl.RanksOf(d)))
	expectResults(t, "second DerivedCouple", all(impl.Couple{Prime: 5}, 0), all(impl.DerivedCouple(d)))
	expectResults(t, "PageSizes", all([]int64{2, 2, 0}, 0), all(impl.PageSizes(c, 3)))
	expectResults(t, "StablePage", all(3, 0), all(impl.StablePage(c)))
	expectResults(t, "StablePage", all(2, 0), all(impl.StablePage(d)))
}

// TestClassesByHand has a differential with 1, 0, 1, 0, so that the classes have 0 ahead, and a vector
// of which J makes 2, 1, 0, 0, which is 0, 1, 3, 0 up to this differential.
func TestClassesByHand(t *testing.T) {
	i := [][]int64{{0, 0, 0}, {0, 0, 0}, {0, 1, 0}}
	j := [][]int64{{1, 0, 1, 0}, {0, 0, 0, 0}, {2, 1, 0, 0}}
	k := [][]int64{{1, 0, 0}, {3, 0, 0}, {4, 0, 0}, {0, 1, 0}}
	c := coupleOf(5, 3, 4, i, j, k)
	expectExactness(t, "with classes", true, c)
	expectResults(t, "CoupleDifferential", all([][]int64{{1, 0, 1, 0}, {3, 0, 3, 0}, {4, 0, 4, 0}, {0, 0, 0, 0}}, 0), all(impl.CoupleDifferential(c)))
	d := coupleOf(5, 1, 2, [][]int64{{0}}, [][]int64{{1, 0}}, [][]int64{{0}, {1}})
	expectResults(t, "DerivedCouple", all(d, 0), all(impl.DerivedCouple(c)))
	expectResults(t, "PageSizes", all([]int64{4, 2, 0, 0}, 0), all(impl.PageSizes(c, 4)))
	expectResults(t, "StablePage", all(3, 0), all(impl.StablePage(c)))
	expectResults(t, "RanksOf", all([]int64{1, 2, 2}, 0), all(impl.RanksOf(c)))
}

// TestDifferentialsOfCouplesThatAreNotExact has K first and J behind it, exact or not.
func TestDifferentialsOfCouplesThatAreNotExact(t *testing.T) {
	c := coupleOf(7, 1, 2, [][]int64{{3}}, [][]int64{{4, 5}}, [][]int64{{6}, {2}})
	expectExactness(t, "of any tables", false, c)
	expectResults(t, "CoupleDifferential", all([][]int64{{3, 2}, {1, 3}}, 0), all(impl.CoupleDifferential(c)))
	expectResults(t, "RanksOf", all([]int64{1, 1, 1}, 0), all(impl.RanksOf(c)))
	c = coupleOf(3, 2, 1, [][]int64{{1, 2}, {2, 1}}, [][]int64{{1}, {1}}, [][]int64{{2, 0}})
	expectResults(t, "CoupleDifferential", all([][]int64{{2}}, 0), all(impl.CoupleDifferential(c)))
	expectResults(t, "RanksOf", all([]int64{1, 1, 1}, 0), all(impl.RanksOf(c)))
	for _, d := range []int64{0, 2, 24} {
		for _, e := range []int64{0, 3, 24} {
			c := coupleOf(2, d, e, zeros(d, d), zeros(d, e), zeros(e, d))
			expectExactness(t, fmt.Sprint("of zeros ", d, e), d == 0 && e == 0, c)
			expectResults(t, "CoupleDifferential of zeros", all(zeros(e, e), 0), all(impl.CoupleDifferential(c)))
			expectResults(t, "RanksOf zeros", all([]int64{0, 0, 0}, 0), all(impl.RanksOf(c)))
		}
	}
}

// TestExactAtTwoPlaces has couples that are exact everywhere but at one place, where what one map makes
// is too much, too little, or something else.
func TestExactAtTwoPlaces(t *testing.T) {
	one, zero := [][]int64{{1}}, [][]int64{{0}}
	for _, c := range []struct {
		place  int
		couple impl.Couple
	}{
		{0, coupleOf(2, 1, 1, one, one, zero)},
		{0, coupleOf(2, 1, 1, zero, zero, one)},
		{0, coupleOf(2, 2, 2, [][]int64{{0, 0}, {1, 0}}, [][]int64{{1, 0}, {0, 0}}, [][]int64{{0, 0}, {1, 0}})},
		{1, coupleOf(2, 1, 1, zero, one, one)},
		{1, coupleOf(2, 1, 1, one, zero, zero)},
		{1, coupleOf(2, 2, 2, [][]int64{{0, 0}, {1, 0}}, [][]int64{{0, 0}, {1, 0}}, [][]int64{{1, 0}, {0, 0}})},
		{2, coupleOf(2, 1, 1, one, zero, one)},
		{2, coupleOf(2, 1, 1, zero, one, zero)},
		{2, coupleOf(2, 2, 2, [][]int64{{0, 0}, {1, 0}}, [][]int64{{0, 0}, {1, 0}}, [][]int64{{0, 0}, {0, 1}})},
	} {
		want := [3]bool{true, true, true}
		want[c.place] = false
		if got := exactPlaces(c.couple); got != want {
			t.Errorf("%v is exact at %v", c.couple, got)
		}
		expectNotExact(t, fmt.Sprint(c.couple), c.couple)
	}
}

// expectNotExact checks what the functions return for a couple that is not exact.
func expectNotExact(t *testing.T, name string, c impl.Couple) {
	t.Helper()
	expectExactness(t, name, false, c)
	expectCode(t, "DerivedCouple "+name, impl.ErrState, all(impl.DerivedCouple(c)))
	expectCode(t, "StablePage "+name, impl.ErrState, all(impl.StablePage(c)))
	for _, n := range []int64{1, 2, impl.MaxDerive} {
		expectCode(t, "PageSizes "+name, impl.ErrState, all(impl.PageSizes(c, n)))
	}
	for _, n := range append([]int64{0, impl.MaxDerive + 1}, farNumbers...) {
		expectCode(t, "PageSizes "+name, impl.ErrRange, all(impl.PageSizes(c, n)))
	}
}

// imagesOf returns the set of what a table makes of all vectors.
func imagesOf(p int64, table [][]int64, columns int64) rowSet {
	return sumsOf(p, columns, table)
}

// zerosOf returns the set of the vectors of which a table makes 0.
func zerosOf(p int64, table [][]int64, columns int64) rowSet {
	return setOf(keep(allRows(p, int64(len(table))), func(v []int64) bool {
		return isZeroRow(timesTable(p, v, table, columns))
	}))
}

// isPlainlyExact reports whether a small couple is exact, by all its vectors.
func isPlainlyExact(c impl.Couple) bool {
	list, columns := threeTables(c)
	for k := range list {
		next := (k + 1) % 3
		if fmt.Sprint(imagesOf(c.Prime, list[k], columns[k])) != fmt.Sprint(zerosOf(c.Prime, list[next], columns[next])) {
			return false
		}
	}
	return true
}

// expectDerivedPlainly checks the derived couple of a small exact couple: its bases by all vectors of D
// and E, and its maps by what the chapter says of each vector.
func expectDerivedPlainly(t *testing.T, c impl.Couple) {
	t.Helper()
	p, derived, name := c.Prime, derivedFrom(t, c), fmt.Sprint("DerivedCouple ", c)
	images, classes, bottom := basesOf(c)
	if derived.Prime != p || derived.D != int64(len(images)) || derived.E != int64(len(classes)) || !impl.IsCouple(derived) {
		t.Errorf("%s = %v", name, derived)
		return
	}
	d := plainCoupleDifferential(c)
	expectSpace(t, name+": D", p, c.D, images, imagesOf(p, c.I, c.D))
	made := imagesOf(p, d, c.E)
	expectSpace(t, name+": E", p, c.E, classes, setOf(keep(allRows(p, c.E), func(v []int64) bool {
		return isZeroRow(timesTable(p, v, d, c.E)) && !slices.ContainsFunc(bottom, func(b []int64) bool { return v[leadPlace(b)] != 0 })
	})))
	for _, x := range allRows(p, c.D) {
		image := timesTable(p, x, c.I, c.D)
		numbers, _ := plainNumbers(p, c.D, images, image)
		byI := timesTable(p, timesTable(p, numbers, derived.I, derived.D), images, c.D)
		byJ := timesTable(p, timesTable(p, numbers, derived.J, derived.E), classes, c.E)
		if fmt.Sprint(byI) != fmt.Sprint(timesTable(p, image, c.I, c.D)) {
			t.Errorf("%s = %v: I of %v is %v", name, derived, image, byI)
		}
		if rest := sumOfRows(p, byJ, p-1, timesTable(p, x, c.J, c.E)); !made[fmt.Sprint(rest)] {
			t.Errorf("%s = %v: J of %v is %v", name, derived, image, byJ)
		}
	}
	for at, v := range classes {
		if byK := timesTable(p, derived.K[at], images, c.D); fmt.Sprint(byK) != fmt.Sprint(timesTable(p, v, c.K, c.D)) {
			t.Errorf("%s = %v: K of %v is %v", name, derived, v, byK)
		}
	}
}

// expectPages checks the page sizes and the stable page of an exact couple by the ranks of powers of I:
// E of the page r is twice what the next power loses.
func expectPages(t *testing.T, name string, c impl.Couple) {
	t.Helper()
	ranks := powerRanks(c, impl.MaxCouple+3)
	var sizes []int64
	for r := range impl.MaxDerive {
		sizes = append(sizes, 2*(ranks[r]-ranks[r+1]))
	}
	for n := 1; n <= impl.MaxDerive; n += 1 + int(c.D)/4 { // a few n are enough for great couples
		expectResults(t, fmt.Sprintf("PageSizes %s to %d", name, n), all(sizes[:n], 0), all(impl.PageSizes(c, int64(n))))
	}
	stable := 1
	for ranks[stable-1] != ranks[stable] {
		stable++
	}
	expectResults(t, "StablePage "+name, all(stable, 0), all(impl.StablePage(c)))
}

func TestSmallCouplesAgainstAllVectors(t *testing.T) {
	exact := 0
	for _, s := range []struct{ p, d, e int64 }{
		{2, 0, 0}, {2, 0, 1}, {2, 0, 2}, {2, 1, 0}, {2, 1, 1}, {2, 1, 2}, {2, 2, 0}, {2, 2, 1}, {2, 2, 2}, {2, 3, 0}, {2, 1, 3},
		{3, 0, 1}, {3, 1, 0}, {3, 1, 1}, {3, 1, 2}, {3, 2, 0}, {3, 2, 1}, {5, 0, 1}, {5, 1, 0}, {5, 1, 1}, {5, 2, 0}, {7, 1, 0}, {7, 1, 1},
	} {
		for _, c := range smallCouples(s.p, s.d, s.e) {
			name := fmt.Sprint(c)
			list, columns := threeTables(c)
			var ranks []int64
			for k, table := range list {
				ranks = append(ranks, dimensionOf(c.Prime, len(imagesOf(c.Prime, table, columns[k]))))
			}
			expectResults(t, "RanksOf "+name, all(ranks, 0), all(impl.RanksOf(c)))
			expectResults(t, "CoupleDifferential "+name, all(plainCoupleDifferential(c), 0), all(impl.CoupleDifferential(c)))
			if !isPlainlyExact(c) {
				expectNotExact(t, name, c)
				continue
			}
			exact++
			expectExactness(t, name, true, c)
			expectExactRanks(t, name, c)
			expectDerivedPlainly(t, c)
			expectExactness(t, "derived from "+name, true, derivedFrom(t, c))
			expectPages(t, name, c)
		}
	}
	if exact < 200 {
		t.Errorf("%d exact couples", exact)
	}
}

// expectKnownCouple checks all pages of a known couple, one after the other, up to those that are
// stable.
func expectKnownCouple(t *testing.T, k knownCouple) {
	t.Helper()
	page := k.Couple
	for r := int64(1); r <= k.stablePage()+1; r++ {
		name := fmt.Sprintf("page %d %s", r, k.name())
		d, e, rank := k.sizesOfPage(r)
		expectResults(t, name, all(k.Prime, d, e), all(page.Prime, page.D, page.E))
		expectExactness(t, name, true, page)
		expectExactRanks(t, name, page)
		expectResults(t, "CoupleDifferential "+name, all(plainCoupleDifferential(page), 0), all(impl.CoupleDifferential(page)))
		expectResults(t, "rank of the differential "+name, all(rank), all(plainRank(k.Prime, differentialIn(t, page))))
		expectResults(t, "RanksOf "+name, all([]int64{d - e/2, e / 2, e / 2}, 0), all(impl.RanksOf(page)))
		next := derivedFrom(t, page)
		expectResults(t, "DerivedCouple "+name, all(plainDerived(page)), all(next))
		expectResults(t, "StablePage "+name, all(max(1, k.stablePage()-r+1), 0), all(impl.StablePage(page)))
		page = next
	}
	if page.E != 0 || page.D != k.Whole {
		t.Errorf("%s: D and E of the last page are %d and %d", k.name(), page.D, page.E)
	}
}

func TestKnownCouples(t *testing.T) {
	for _, k := range smallerCouples(20) {
		expectKnownCouple(t, k)
		expectPages(t, k.name(), k.Couple)
	}
}

func TestGreatCouples(t *testing.T) {
	for _, p := range []int64{2, 3, 5, 7} {
		for _, k := range greatCouples(p) {
			expectKnownCouple(t, k)
			expectPages(t, k.name(), k.Couple)
		}
	}
}

// TestPageSizesAreThoseOfDerivedCouples derives couples one after the other.
func TestPageSizesAreThoseOfDerivedCouples(t *testing.T) {
	for _, k := range slices.Concat(smallerCouples(6), greatCouples(3)) {
		var sizes []int64
		page := k.Couple
		for n := int64(1); n <= impl.MaxDerive; n++ {
			_, e, _ := k.sizesOfPage(n)
			sizes = append(sizes, page.E)
			if page.E != e {
				t.Errorf("page %d %s: E is %d, want %d", n, k.name(), page.E, e)
			}
			page = derivedFrom(t, page)
		}
		for _, n := range []int64{1, 2, impl.MaxDerive} {
			expectResults(t, "PageSizes "+k.name(), all(sizes[:n], 0), all(impl.PageSizes(k.Couple, n)))
		}
	}
}

// TestStablePages has I with an inverse at once, and only on pages beyond MaxDerive, with and without
// anything left in D.
func TestStablePages(t *testing.T) {
	g := &numbers{state: 54}
	for _, p := range []int64{2, 7} {
		for _, c := range []struct {
			whole  int64
			blocks []int64
			want   int64
		}{
			{0, nil, 1}, {1, nil, 1}, {24, nil, 1}, {0, []int64{1}, 2}, {23, []int64{1}, 2}, {22, []int64{2}, 3}, {0, []int64{11}, 12},
			{1, []int64{12}, 13}, {0, []int64{13, 1}, 14}, {1, []int64{23}, 24}, {0, []int64{24}, 25}, {0, equalBlocks(12, 2), 3}, {0, equalBlocks(12, 1), 2},
		} {
			k := mixed(g, p, c.whole, c.blocks...)
			expectResults(t, "StablePage "+k.name(), all(c.want, 0), all(impl.StablePage(k.Couple)))
		}
	}
}

// TestStableCouplesStayAsTheyAre has I with an inverse, so that D of the derived couple is all of D, with
// the basis that it has already, and E is 0.
func TestStableCouplesStayAsTheyAre(t *testing.T) {
	g := &numbers{state: 55}
	for _, p := range []int64{2, 3, 5, 7} {
		for _, whole := range []int64{0, 1, 2, 5, 24} {
			k := mixed(g, p, whole)
			expectResults(t, "DerivedCouple "+k.name(), all(k.Couple, 0), all(impl.DerivedCouple(k.Couple)))
			expectResults(t, "PageSizes "+k.name(), all(make([]int64, 12), 0), all(impl.PageSizes(k.Couple, 12)))
		}
	}
}

// TestCouplesWithOneTableChanged has exact couples of which one basis is changed for one table alone.
func TestCouplesWithOneTableChanged(t *testing.T) {
	g := &numbers{state: 56}
	var seen [3]int
	for _, k := range smallerCouples(20) {
		for range 6 {
			c := withSpare(k.Couple) // a copy
			list, columns := threeTables(c)
			at := g.below(3)
			table := list[at]
			if len(table) > 1 && g.below(2) == 0 {
				i, j := g.twoPlaces(int64(len(table)))
				addRow(c.Prime, table, i, j, 1)
			} else if columns[at] > 1 {
				i, j := g.twoPlaces(columns[at])
				takeColumn(c.Prime, table, i, j, 1)
			}
			places := exactPlaces(c)
			for place, exact := range places {
				if !exact {
					seen[place]++
				}
			}
			if places == [3]bool{true, true, true} {
				expectExactness(t, fmt.Sprint(c), true, c)
			} else {
				expectNotExact(t, fmt.Sprint(c), c)
			}
		}
	}
	if slices.Min(seen[:]) < 30 {
		t.Errorf("%v couples that are not exact at these places", seen)
	}
}
