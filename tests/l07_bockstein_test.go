package tests

import (
	"fmt"
	"testing"

	"loop.example/g01273/impl"
)

// restIn returns the rest of a number modulo p, found by steps of p.
func restIn(p int64, number int64) int64 {
	for number < 0 {
		number += p
	}
	for number >= p {
		number -= p
	}
	return number
}

// expectReduction checks the reduction modulo p, and that its homology numbers are those of the page 1.
func expectReduction(t *testing.T, name string, x impl.Whole, p int64) {
	t.Helper()
	want := complexOf(p, x.Dims)
	for _, table := range x.Maps {
		table = cloned(table)
		for _, row := range table {
			for j := range row {
				row[j] = restIn(p, row[j])
			}
		}
		want.Maps = append(want.Maps, table)
	}
	name = fmt.Sprintf("%s modulo %d", name, p)
	reduced, code := impl.ReduceModulo(x, p)
	expectResults(t, "ReduceModulo "+name, all(want, 0), all(reduced, code))
	if !impl.IsComplex(reduced) {
		t.Fatalf("ReduceModulo %s = %v is no complex", name, reduced)
	}
	expectResults(t, "homology of the reduction "+name, all(holesByRanks(want), 0), all(impl.BocksteinNumbers(x, p, 1)))
	expectResults(t, "BocksteinNumbers of the page 1 "+name, all(homologyOf(t, reduced), 0), all(impl.BocksteinNumbers(x, p, 1)))
}

// expectPagesOf checks all pages of p: that their numbers do not grow, that they end with the free parts
// alone, and which page is the first one of those.
func expectPagesOf(t *testing.T, name string, x impl.Whole, p int64) {
	t.Helper()
	homology, code := impl.WholeHomology(x)
	expectCode(t, "WholeHomology "+name, impl.ErrNone, all(homology, code))
	last, want := int64(impl.MaxBockstein+1), int64(impl.ErrLimit)
	var before []int64
	for r := int64(1); r <= impl.MaxBockstein; r++ {
		page, code := impl.BocksteinNumbers(x, p, r)
		expectCode(t, "BocksteinNumbers "+name, impl.ErrNone, all(page, code))
		free := true
		for n, number := range page {
			if r > 1 && number > before[n] || number < homology[n].Free {
				t.Errorf("%s modulo %d: page %d is %v behind %v", name, p, r, page, before)
			}
			free = free && number == homology[n].Free
		}
		if free && last > impl.MaxBockstein {
			last, want = r, impl.ErrNone
		}
		before = page
	}
	if want != impl.ErrNone {
		last = 0
	}
	expectResults(t, fmt.Sprintf("LastBockstein %s modulo %d", name, p), all(last, want), all(impl.LastBockstein(x, p)))
}

// expectBockstein checks the pages of a known whole complex.
func expectBockstein(t *testing.T, k knownWhole) {
	t.Helper()
	for _, p := range usualPrimes {
		for r := int64(1); r <= impl.MaxBockstein; r++ {
			expectResults(t, fmt.Sprintf("BocksteinNumbers of %s modulo %d at %d", k.name(), p, r), all(k.bockstein(p, r), 0), all(impl.BocksteinNumbers(k.Whole, p, r)))
		}
		if last := k.lastBockstein(p); last <= impl.MaxBockstein {
			expectResults(t, fmt.Sprintf("LastBockstein of %s modulo %d", k.name(), p), all(last, 0), all(impl.LastBockstein(k.Whole, p)))
		} else {
			expectCode(t, fmt.Sprintf("LastBockstein of %s modulo %d", k.name(), p), impl.ErrLimit, all(impl.LastBockstein(k.Whole, p)))
		}
		expectReduction(t, k.name(), k.Whole, p)
		expectPagesOf(t, k.name(), k.Whole, p)
	}
}

func TestBocksteinPagesByHand(t *testing.T) {
	lens, _ := impl.LensComplex(4, 3)
	for r, want := range [][]int64{{1, 1, 1, 1}, {1, 1, 1, 1}, {1, 0, 0, 1}, {1, 0, 0, 1}} {
		expectResults(t, fmt.Sprint("BocksteinNumbers of page ", r+1), all(want, 0), all(impl.BocksteinNumbers(lens, 2, int64(r+1))))
	}
	expectResults(t, "LastBockstein", all(3, 0), all(impl.LastBockstein(lens, 2)))
	expectResults(t, "LastBockstein", all(1, 0), all(impl.LastBockstein(lens, 3)))
	reduced, code := impl.ReduceModulo(lens, 3)
	expectResults(t, "ReduceModulo", all("3:1,1,1,1:0;1;0", 0), all(textOf(t, reduced), code))
	// parts of 2 and 12, and one of 9, beside free parts
	x := impl.Whole{Dims: []int64{3, 4, 1}, Maps: tables{{{4, 0, 0}, {0, 6, 0}, {0, 0, 0}, {0, 0, 0}}, {{0, 0, -9, 0}}}}
	expectResults(t, "WholeHomology", all([]impl.Torsion{{Free: 1, Parts: []int64{2, 12}}, {Free: 1, Parts: []int64{9}}, {}}, 0), all(impl.WholeHomology(x)))
	for _, c := range []struct {
		p, last int64
		pages   [][]int64
	}{
		{2, 3, [][]int64{{3, 3, 0}, {2, 2, 0}, {1, 1, 0}}}, {3, 3, [][]int64{{2, 3, 1}, {1, 2, 1}, {1, 1, 0}}}, {5, 1, [][]int64{{1, 1, 0}}}, {7, 1, [][]int64{{1, 1, 0}}},
	} {
		expectResults(t, fmt.Sprint("LastBockstein of ", c.p), all(c.last, 0), all(impl.LastBockstein(x, c.p)))
		for r, want := range c.pages {
			expectResults(t, fmt.Sprintf("BocksteinNumbers of %d at %d", c.p, r+1), all(want, 0), all(impl.BocksteinNumbers(x, c.p, int64(r+1))))
		}
	}
}

func TestReductionsOfNumbers(t *testing.T) {
	for number := int64(-impl.MaxWhole); number <= impl.MaxWhole; number++ {
		for _, p := range usualPrimes {
			x := twoTerms([][]int64{{number}}, 1)
			want := complexOf(p, []int64{1, 1}, [][]int64{{restIn(p, number)}})
			expectResults(t, fmt.Sprintf("ReduceModulo of %d by %d", number, p), all(want, 0), all(impl.ReduceModulo(x, p)))
		}
	}
}

func TestBocksteinPagesOfKnownWholes(t *testing.T) {
	counts := map[int64]int{}
	for _, k := range knownWholes(12) {
		expectBockstein(t, k)
		for _, p := range usualPrimes {
			counts[min(k.lastBockstein(p), impl.MaxBockstein)]++
		}
	}
	for r := range int64(7) {
		if counts[r+1] == 0 {
			t.Errorf("last pages %v", counts)
		}
	}
}

func TestBocksteinPagesOfAnyWholes(t *testing.T) {
	g := &numbers{state: 95}
	for n := int64(0); n <= impl.MaxWide; n++ {
		for m := int64(0); m <= impl.MaxWide; m++ {
			for _, bound := range []int64{2, impl.MaxWhole} {
				x := twoTerms(g.matrix(n, m, bound), m)
				for _, p := range usualPrimes {
					expectReduction(t, fmt.Sprint(x), x, p)
					expectPagesOf(t, fmt.Sprint(x), x, p)
				}
			}
		}
	}
}

// TestPagesAtTheirLimits has cyclic groups of the powers of each prime, of which the last pages are those
// up to MaxBockstein, and beyond.
func TestPagesAtTheirLimits(t *testing.T) {
	links := map[int64][]int64{2: {2, 4, 8}, 3: {3, 9}, 5: {5}, 7: {7}}
	for p, some := range links {
		most := int64(len(some)) * impl.MaxWide
		for exponent := int64(0); exponent <= most; exponent++ {
			c := chain{n: 1}
			for left := exponent; left > 0; {
				step := min(left, int64(len(some)))
				c.links = append(c.links, some[step-1])
				left -= step
			}
			k := wholeOf([]int64{1, 0, 0, 2}, c)
			if k.lastBockstein(p) != exponent+1 {
				t.Fatalf("%s: last page %d", k.name(), k.lastBockstein(p))
			}
			expectBockstein(t, k)
		}
	}
}

// TestGreatPages has a part of 5^10, which no page tells, one of 7^9, which the last one does, and one of
// nearly the greatest order.
func TestGreatPages(t *testing.T) {
	great := greatTorsions()
	for _, c := range []struct {
		at, p, r int64
		want     []int64
		last     int64
		code     int64
	}{
		{0, 5, 10, []int64{1, 1}, 0, impl.ErrLimit}, {0, 5, 1, []int64{1, 1}, 0, impl.ErrLimit}, {0, 2, 1, []int64{0, 0}, 1, impl.ErrNone},
		{1, 7, 9, []int64{1, 1}, 10, impl.ErrNone}, {1, 7, 10, []int64{0, 0}, 10, impl.ErrNone}, {2, 3, 2, []int64{1, 1}, 3, impl.ErrNone}, {2, 5, 2, []int64{1, 1}, 3, impl.ErrNone},
	} {
		x := twoTerms(great[c.at].rows, 6)
		expectResults(t, fmt.Sprintf("BocksteinNumbers of %d at %d", c.p, c.r), all(c.want, 0), all(impl.BocksteinNumbers(x, c.p, c.r)))
		expectResults(t, fmt.Sprint("LastBockstein of ", c.p), all(c.last, c.code), all(impl.LastBockstein(x, c.p)))
	}
	for _, c := range great {
		for _, p := range usualPrimes {
			x := twoTerms(c.rows, 6)
			expectReduction(t, "great torsion", x, p)
			expectPagesOf(t, "great torsion", x, p)
		}
	}
}

// TestBocksteinNumbersOfDuals has the torsion moved, and so the numbers of each page in the reverse order.
func TestBocksteinNumbersOfDuals(t *testing.T) {
	for _, k := range knownWholes(4) {
		dual, _ := impl.DualWhole(k.Whole)
		for _, p := range usualPrimes {
			for r := int64(1); r <= impl.MaxBockstein; r++ {
				page := k.bockstein(p, r)
				for at := range len(page) / 2 {
					page[at], page[len(page)-1-at] = page[len(page)-1-at], page[at]
				}
				expectResults(t, "BocksteinNumbers of the dual of "+k.name(), all(page, 0), all(impl.BocksteinNumbers(dual, p, r)))
			}
		}
	}
}
