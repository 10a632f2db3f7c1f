package tests

import (
	"fmt"
	"slices"
	"testing"

	"loop.example/g01273/impl"
)

// expectBarPages holds the page numbers of bars against the pages of a complex that has them, also in the
// degrees beyond its top.
func expectBarPages(t *testing.T, x impl.Filtered, list []impl.Bar) {
	t.Helper()
	for r := range int64(impl.MaxPage + 1) {
		page, code := impl.PageTable(x, r)
		expectCode(t, "PageTable", impl.ErrNone, all(page, code))
		for n := range int64(impl.MaxTop + 1) {
			for q := range int64(impl.MaxLevel + 1) {
				want := int64(0)
				if int(n) < len(page) {
					want = page[n][q]
				}
				expectResults(t, fmt.Sprintf("BarPage(%v, %d, %d, %d)", list, r, n, q), all(want, 0), all(impl.BarPage(list, r, n, q)))
			}
		}
	}
}

// expectCounts holds the counts of the bars that last against homology numbers.
func expectCounts(t *testing.T, numbers []int64, list []impl.Bar) {
	t.Helper()
	for n := range int64(impl.MaxTop + 1) {
		want := int64(0)
		if int(n) < len(numbers) {
			want = numbers[n]
		}
		expectResults(t, fmt.Sprintf("CountLasting(%v, %d)", list, n), all(want, 0), all(impl.CountLasting(list, n)))
	}
}

func TestComplexesOfBarsByHand(t *testing.T) {
	for _, c := range []struct {
		p, top       int64
		bars, text   string
		levels, page [][]int64
	}{
		{5, 0, "", "5:0:", [][]int64{{}}, [][]int64{{0, 0, 0, 0, 0, 0}}},
		{2, 2, "", "2:0,0,0:-;-", [][]int64{{}, {}, {}}, [][]int64{{0, 0, 0, 0, 0, 0}, {0, 0, 0, 0, 0, 0}, {0, 0, 0, 0, 0, 0}}},
		{7, 0, "0:0-,0:0-,0:5-", "7:3:", [][]int64{{0, 0, 5}}, [][]int64{{2, 0, 0, 0, 0, 1}}},
		{3, 1, "0:0-2", "3:1,1:1", [][]int64{{0}, {2}}, [][]int64{{1, 0, 0, 0, 0, 0}, {0, 0, 1, 0, 0, 0}}},
		{3, 1, "1:3-", "3:0,1:-", [][]int64{{}, {3}}, [][]int64{{0, 0, 0, 0, 0, 0}, {0, 0, 0, 1, 0, 0}}},
		{2, 2, "1:3-", "2:0,1,0:-;-", [][]int64{{}, {3}, {}}, [][]int64{{0, 0, 0, 0, 0, 0}, {0, 0, 0, 1, 0, 0}, {0, 0, 0, 0, 0, 0}}},
		// the bars that do not last are over those of their own degree, also if a lasting one stands between them
		{5, 2, "0:1-4,0:2-,0:3-3,1:0-5,1:0-", "5:3,4,1:000,000,100,001;1000", [][]int64{{1, 2, 3}, {0, 0, 4, 3}, {5}},
			[][]int64{{0, 1, 1, 1, 0, 0}, {2, 0, 0, 1, 1, 0}, {0, 0, 0, 0, 0, 1}}},
		{2, 5, "4:0-0,5:5-", "2:0,0,0,0,1,2:-;-;-;-;0,1", [][]int64{{}, {}, {}, {}, {0}, {5, 0}},
			[][]int64{{0, 0, 0, 0, 0, 0}, {0, 0, 0, 0, 0, 0}, {0, 0, 0, 0, 0, 0}, {0, 0, 0, 0, 0, 0}, {1, 0, 0, 0, 0, 0}, {1, 0, 0, 0, 0, 1}}},
	} {
		x, code := impl.ComplexOfBars(c.p, c.top, barsWith(t, c.bars))
		expectCode(t, "ComplexOfBars of "+c.bars, impl.ErrNone, all(x, code))
		expectResults(t, "ComplexOfBars of "+c.bars, all(c.text, c.levels), all(textOf(t, x.Complex), x.Levels))
		expectResults(t, "page 0 of "+c.bars, all(c.page, 0), all(impl.PageTable(x, 0)))
		expectResults(t, "bars of "+c.bars, all(c.bars, 0), all(impl.BarsText(barsOf(t, x))))
		expectBarPages(t, x, barsWith(t, c.bars))
	}
}

func TestComplexesOfBarsHaveTheseBars(t *testing.T) {
	g := &numbers{state: 124}
	built, wide := 0, 0
	for _, list := range barLists(3) {
		for top := leastPlainTop(list); top <= impl.MaxTop; top++ {
			p := usualPrimes[g.below(4)]
			name := fmt.Sprintf("ComplexOfBars(%d, %d, %v)", p, top, list)
			want := plainComplexOfBars(p, top, list)
			if isTooWide(want) {
				wide++
				expectCode(t, name, impl.ErrLimit, all(impl.ComplexOfBars(p, top, list)))
				continue
			}
			built++
			x, code := impl.ComplexOfBars(p, top, list)
			expectResults(t, name, all(want, 0), all(x, code))
			if !impl.IsFiltered(x) {
				t.Errorf("%s = %v is no filtered complex", name, x)
			}
			expectResults(t, "BarsOf of "+name, all(list, 0), all(impl.BarsOf(x)))
			if top == leastPlainTop(list) || top == impl.MaxTop {
				expectBarPages(t, x, list)
				expectCounts(t, homologyOf(t, x.Complex), list)
			}
		}
	}
	if built < 100 || wide < 30 {
		t.Errorf("%d complexes of bars, %d too wide", built, wide)
	}
}

// TestEachBarAlone has all tops and primes for each bar.
func TestEachBarAlone(t *testing.T) {
	for _, b := range allBars() {
		list := []impl.Bar{b}
		least := leastPlainTop(list)
		for _, p := range usualPrimes {
			for top := int64(-1); top <= impl.MaxTop+1; top++ {
				name := fmt.Sprintf("ComplexOfBars(%d, %d, %v)", p, top, list)
				if top < least || top > impl.MaxTop {
					expectCode(t, name, impl.ErrRange, all(impl.ComplexOfBars(p, top, list)))
					continue
				}
				x, code := impl.ComplexOfBars(p, top, list)
				expectResults(t, name, all(plainComplexOfBars(p, top, list), 0), all(x, code))
				expectResults(t, "BarsOf of "+name, all(list, 0), all(impl.BarsOf(x)))
			}
		}
		if least <= impl.MaxTop {
			expectBarPages(t, barComplex(t, 2, least, list), list)
		}
	}
}

// TestLeastTops has bars of the top degree that last, and such as do not.
func TestLeastTops(t *testing.T) {
	for top := range int64(impl.MaxTop + 1) {
		for _, others := range [][]impl.Bar{nil, {bar(0, 1, -1)}, {bar(0, 0, -1), bar(0, 2, -1)}} {
			lasting := inOrder(append(slices.Clone(others), bar(top, 3, -1))...)
			ending := inOrder(append(slices.Clone(others), bar(top, 3, 3))...)
			expectCode(t, fmt.Sprintf("ComplexOfBars(3, %d, %v)", top, lasting), impl.ErrNone, all(impl.ComplexOfBars(3, top, lasting)))
			expectCode(t, fmt.Sprintf("ComplexOfBars(3, %d, %v)", top-1, lasting), impl.ErrRange, all(impl.ComplexOfBars(3, top-1, lasting)))
			expectCode(t, fmt.Sprintf("ComplexOfBars(3, %d, %v)", top, ending), impl.ErrRange, all(impl.ComplexOfBars(3, top, ending)))
			want := int64(impl.ErrNone)
			if top == impl.MaxTop {
				want = impl.ErrRange
			}
			expectCode(t, fmt.Sprintf("ComplexOfBars(3, %d, %v)", top+1, ending), want, all(impl.ComplexOfBars(3, top+1, ending)))
		}
	}
	// the bar that needs the greatest top is not the last one of the list
	list := barsWith(t, "2:0-1,3:0-")
	expectCode(t, "ComplexOfBars of 2:0-1,3:0-", impl.ErrNone, all(impl.ComplexOfBars(2, 3, list)))
	expectCode(t, "ComplexOfBars of 2:0-1,3:0- below", impl.ErrRange, all(impl.ComplexOfBars(2, 2, list)))
	list = barsWith(t, "3:0-1,3:0-")
	expectCode(t, "ComplexOfBars of 3:0-1,3:0-", impl.ErrNone, all(impl.ComplexOfBars(2, 4, list)))
	expectCode(t, "ComplexOfBars of 3:0-1,3:0- below", impl.ErrRange, all(impl.ComplexOfBars(2, 3, list)))
}

// TestWidestComplexesOfBars has dimensions of MaxDim, and one more: of vectors of one kind, or of both.
func TestWidestComplexesOfBars(t *testing.T) {
	for _, p := range usualPrimes {
		for _, c := range []struct {
			list []impl.Bar
			more []impl.Bar
		}{
			{slices.Repeat([]impl.Bar{bar(0, 2, -1)}, 8), []impl.Bar{bar(0, 0, -1), bar(0, 5, -1), bar(0, 3, 4)}},
			{slices.Repeat([]impl.Bar{bar(5, 2, -1)}, 8), []impl.Bar{bar(5, 5, -1), bar(4, 5, 5)}},
			{slices.Repeat([]impl.Bar{bar(1, 0, 5)}, 8), []impl.Bar{bar(1, 0, 0), bar(1, 0, -1), bar(2, 1, -1), bar(2, 4, 4), bar(0, 0, 5)}},
			{append(slices.Repeat([]impl.Bar{bar(2, 1, 3)}, 3), slices.Repeat([]impl.Bar{bar(3, 4, -1)}, 5)...), []impl.Bar{bar(3, 0, -1), bar(3, 0, 1), bar(2, 0, 0)}},
			{append(slices.Repeat([]impl.Bar{bar(2, 1, 3)}, 4), slices.Repeat([]impl.Bar{bar(3, 4, 4)}, 4)...), []impl.Bar{bar(3, 0, -1), bar(3, 0, 1), bar(2, 0, 0)}},
			{slices.Concat(slices.Repeat([]impl.Bar{bar(0, 1, 3)}, 8), slices.Repeat([]impl.Bar{bar(2, 4, 4)}, 8), slices.Repeat([]impl.Bar{bar(4, 0, 5)}, 7)), []impl.Bar{bar(0, 5, -1), bar(1, 0, -1), bar(2, 0, -1), bar(3, 0, -1)}},
		} {
			expectResults(t, fmt.Sprintf("BarsOf the complex of %v", c.list), all(c.list, 0), all(impl.BarsOf(barComplex(t, p, 5, c.list))))
			for _, one := range c.more {
				list := inOrder(append(slices.Clone(c.list), one)...)
				expectCode(t, fmt.Sprintf("ComplexOfBars(%d, 5, %v)", p, list), impl.ErrLimit, all(impl.ComplexOfBars(p, 5, list)))
			}
		}
		// MaxBars bars in one degree, and in as many as there are
		list := slices.Repeat([]impl.Bar{bar(0, 0, -1)}, impl.MaxBars)
		expectCode(t, "ComplexOfBars of MaxBars in one degree", impl.ErrLimit, all(impl.ComplexOfBars(p, 0, list)))
		list = slices.Concat(slices.Repeat([]impl.Bar{bar(0, 0, 1)}, 8), slices.Repeat([]impl.Bar{bar(2, 2, 5)}, 8), slices.Repeat([]impl.Bar{bar(4, 5, 5)}, 8))
		expectResults(t, "BarsOf the complex of MaxBars", all(list, 0), all(impl.BarsOf(barComplex(t, p, 5, list))))
		expectBarPages(t, barComplex(t, p, 5, list), list)
	}
}

// TestPagesOfKnownBars has filtered complexes with other bases than complexes of bars have.
func TestPagesOfKnownBars(t *testing.T) {
	for _, k := range slices.Concat(knownFiltereds(3), steepFiltereds(1)) {
		list := barsOf(t, k.Filtered)
		expectBarPages(t, k.Filtered, list)
		expectCounts(t, homologyOf(t, k.Complex), list)
		// the complex of these bars has the same pages
		again := barComplex(t, k.Complex.Prime, int64(len(k.Levels))-1, list)
		expectResults(t, "dimensions", all(k.Complex.Dims), all(again.Complex.Dims))
		expectBarPages(t, again, list)
	}
}

func TestPagesOfSmallBars(t *testing.T) {
	for _, x := range smallFiltereds(4) {
		list := barsOf(t, x)
		expectBarPages(t, x, list)
		expectCounts(t, homologyOf(t, x.Complex), list)
		again := barComplex(t, x.Complex.Prime, int64(len(x.Levels))-1, list)
		expectResults(t, "BarsOf the complex of bars", all(list, 0), all(impl.BarsOf(again)))
	}
}

// TestPagesOfLists has lists of bars that no complex has: too many of a degree, and such as end in the
// degree MaxTop.
func TestPagesOfLists(t *testing.T) {
	for _, list := range append(barLists(2), barsWith(t, "5:0-0,5:0-3,5:0-5,5:0-,5:1-4,5:5-5,5:5-"), slices.Repeat([]impl.Bar{bar(5, 1, 4)}, impl.MaxBars)) {
		k := knownFiltered{Pieces: piecesOf(list)}
		for r := range int64(impl.MaxPage + 1) {
			for n := range int64(impl.MaxTop + 1) {
				for q := range int64(impl.MaxLevel + 1) {
					expectResults(t, fmt.Sprintf("BarPage(%v, %d, %d, %d)", list, r, n, q), all(k.pageNumber(r, n, q), 0), all(impl.BarPage(list, r, n, q)))
				}
			}
		}
	}
}

func TestPagesOfOneBarByHand(t *testing.T) {
	list := barsWith(t, "2:1-3")
	for _, c := range []struct{ r, n, q, want int64 }{
		{0, 2, 1, 1}, {1, 2, 1, 1}, {2, 2, 1, 1}, {3, 2, 1, 0}, {8, 2, 1, 0},
		{0, 3, 3, 1}, {1, 3, 3, 1}, {2, 3, 3, 1}, {3, 3, 3, 0}, {8, 3, 3, 0},
		{0, 2, 3, 0}, {0, 3, 1, 0}, {0, 1, 1, 0}, {0, 4, 3, 0}, {0, 2, 2, 0}, {1, 3, 2, 0}, {0, 0, 0, 0}, {0, 5, 5, 0},
	} {
		expectResults(t, fmt.Sprint("BarPage of 2:1-3 at ", c), all(c.want, 0), all(impl.BarPage(list, c.r, c.n, c.q)))
	}
	list = barsWith(t, "0:0-0,0:0-,1:0-0")
	for r, want := range []int64{2, 1, 1, 1, 1, 1, 1, 1, 1} {
		expectResults(t, fmt.Sprint("BarPage at 0 of ", r), all(want, 0), all(impl.BarPage(list, int64(r), 0, 0)))
	}
	for r, want := range []int64{2, 0, 0, 0, 0, 0, 0, 0, 0} {
		expectResults(t, fmt.Sprint("BarPage at 1 of ", r), all(want, 0), all(impl.BarPage(list, int64(r), 1, 0)))
	}
	// the longest bar lasts until the page MaxLevel
	list = barsWith(t, "4:0-5")
	for r := range int64(impl.MaxPage + 1) {
		want := 0
		if r <= impl.MaxLevel {
			want = 1
		}
		expectResults(t, fmt.Sprint("BarPage of 4:0-5 of ", r), all(want, 0), all(impl.BarPage(list, r, 4, 0)))
		expectResults(t, fmt.Sprint("BarPage of 4:0-5 above of ", r), all(want, 0), all(impl.BarPage(list, r, 5, 5)))
	}
}
