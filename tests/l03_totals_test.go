package tests

import (
	"fmt"
	"slices"
	"testing"

	"loop.example/g01273/impl"
)

// doublesWithTotals lists known double complexes of which the totals keep to the limits.
func doublesWithTotals(each int) []knownDouble {
	return slices.DeleteFunc(knownDoubles(each), func(k knownDouble) bool { return !hasTotal(k.Double) })
}

// filteredTotal returns the total with its filtration by rows, or by columns.
func filteredTotal(t *testing.T, x impl.Double, rows bool) impl.Filtered {
	t.Helper()
	y, code := impl.FilteredTotal(x, rows)
	if code != impl.ErrNone {
		t.Fatalf("FilteredTotal(%v, %v): code %d", x, rows, code)
	}
	return y
}

// pageOfSpots returns the page table with the numbers of a table at their degrees and levels.
func pageOfSpots(x impl.Double, rows bool, table [][]int64) [][]int64 {
	page := make([][]int64, len(x.Dims)+len(x.Dims[0])-1)
	for n := range page {
		page[n] = make([]int64, impl.MaxLevel+1)
	}
	for _, c := range spotsOf(x) {
		level := c.i
		if rows {
			level = c.j
		}
		page[c.i+c.j][level] = table[c.i][c.j]
	}
	return page
}

func TestTotalsByHand(t *testing.T) {
	// two vectors in the cell 0, 1, one in each other one
	x := zeroDouble(5, [][]int64{{1, 2}, {1, 1}})
	x.Across[1][1][0] = []int64{1, 2}
	x.Across[1][0][0] = []int64{4}
	x.Down[1][1][0] = []int64{3}
	x.Down[0][1] = [][]int64{{1}, {1}}
	expectDouble(t, "by hand", x)
	total, code := impl.TotalOf(x)
	expectResults(t, "TotalOf", all(impl.Complex{Prime: 5, Dims: []int64{1, 3, 1}, Maps: [][][]int64{{{1}, {1}, {4}}, {{1, 2, 3}}}}, 0), all(total, code))
	for rows, levels := range map[bool][][]int64{false: {{0}, {0, 0, 1}, {1}}, true: {{0}, {1, 1, 0}, {1}}} {
		y := filteredTotal(t, x, rows)
		expectResults(t, fmt.Sprint("FilteredTotal by rows ", rows), all(total, levels), all(y.Complex, y.Levels))
	}
	for dim := range int64(impl.MaxCell + 1) {
		point := zeroDouble(7, [][]int64{{dim}})
		expectResults(t, "TotalOf one cell", all(complexOf(7, []int64{dim}), 0), all(impl.TotalOf(point)))
		levels := [][]int64{make([]int64, dim)}
		expectResults(t, "FilteredTotal of one cell", all(withLevels(complexOf(7, []int64{dim}), levels...), 0), all(impl.FilteredTotal(point, true)))
	}
	row := zeroDouble(2, sameDims(4, 1, 1))
	expectResults(t, "levels of a row by columns", all([][]int64{{0}, {1}, {2}, {3}}), all(filteredTotal(t, row, false).Levels))
	expectResults(t, "levels of a row by rows", all([][]int64{{0}, {0}, {0}, {0}}), all(filteredTotal(t, row, true).Levels))
}

func TestTotalsOfKnownDoubles(t *testing.T) {
	for _, k := range doublesWithTotals(5) {
		total, code := impl.TotalOf(k.Double)
		name := fmt.Sprintf("TotalOf(%v)", k.Double)
		expectResults(t, name, all(plainTotal(k.Double), 0), all(total, code))
		if !impl.IsComplex(total) {
			t.Errorf("%s is no complex", name)
		}
		expectResults(t, "homology of "+name, all(k.holes()), all(homologyOf(t, total)))
		euler, code := impl.EulerNumber(total)
		expectResults(t, "Euler number of "+name, all(euler, code), all(impl.DoubleEuler(k.Double)))
		other, code := impl.TotalOf(transposed(t, k.Double))
		expectResults(t, "transposed of "+name, all(k.holes(), 0), all(homologyOf(t, other), code))
	}
}

func TestFilteredTotals(t *testing.T) {
	for _, k := range doublesWithTotals(5) {
		for _, rows := range []bool{false, true} {
			y := filteredTotal(t, k.Double, rows)
			name := fmt.Sprintf("FilteredTotal(%v, %v)", k.Double, rows)
			if !impl.IsFiltered(y) {
				t.Errorf("%s is not filtered", name)
			}
			levels := make([][]int64, len(totalDims(k.Double)))
			for n := range levels {
				for _, at := range labelsOf(k.Double, int64(n)) {
					if rows {
						levels[n] = append(levels[n], at.j)
					} else {
						levels[n] = append(levels[n], at.i)
					}
				}
			}
			expectResults(t, name, all(plainTotal(k.Double), levels), all(y.Complex, y.Levels))
		}
	}
}

// checkPages holds the pages 0 to 2 of both filtrations against the numbers of a double complex.
func checkPages(t *testing.T, x impl.Double) {
	t.Helper()
	for _, rows := range []bool{false, true} {
		y := filteredTotal(t, x, rows)
		first, code := impl.ColumnHomology(x)
		if rows {
			first, code = impl.RowHomology(x)
		}
		expectCode(t, "homology", impl.ErrNone, all(first, code))
		second, code := impl.SecondNumbers(x, rows)
		expectCode(t, "SecondNumbers", impl.ErrNone, all(second, code))
		for r, table := range [][][]int64{x.Dims, first, second} {
			name := fmt.Sprintf("page %d of %v, by rows %v", r, x, rows)
			expectResults(t, name, all(pageOfSpots(x, rows, table), 0), all(impl.PageTable(y, int64(r))))
		}
	}
}

func TestSecondNumbersAreThoseOfThePage2(t *testing.T) {
	checkPages(t, longStrip())
	for _, k := range doublesWithTotals(4) {
		checkPages(t, k.Double)
	}
	for p, shapes := range smallShapes() {
		for _, dims := range shapes {
			doubles, _ := smallDoubles(p, dims)
			for len(doubles) > 60 { // every third one, so that all kinds stay
				var fewer []impl.Double
				for at := 0; at < len(doubles); at += 3 {
					fewer = append(fewer, doubles[at])
				}
				doubles = fewer
			}
			for _, x := range doubles {
				checkPages(t, x)
			}
		}
	}
}

// expectTotals checks the code of both functions that make totals.
func expectTotals(t *testing.T, name string, want int64, x impl.Double) {
	t.Helper()
	expectCode(t, "TotalOf "+name, want, all(impl.TotalOf(x)))
	expectCode(t, "FilteredTotal by columns "+name, want, all(impl.FilteredTotal(x, false)))
	expectCode(t, "FilteredTotal by rows "+name, want, all(impl.FilteredTotal(x, true)))
}

func TestTotalsAtTheirLimits(t *testing.T) {
	for w := int64(1); w <= impl.MaxSide; w++ {
		for h := int64(1); h <= impl.MaxSide; h++ {
			want := int64(impl.ErrNone)
			if w+h-2 > impl.MaxTop {
				want = impl.ErrLimit
			}
			expectTotals(t, fmt.Sprintf("of %d columns of %d cells", w, h), want, zeroDouble(3, sameDims(w, h, 0)))
		}
	}
	expectTotals(t, "of the dimension 8", impl.ErrNone, zeroDouble(2, [][]int64{{4, 4}, {4, 4}}))
	expectTotals(t, "of the dimension 8 in three cells", impl.ErrNone, zeroDouble(2, [][]int64{{0, 0, 4}, {0, 2, 0}, {2, 0, 0}}))
	expectTotals(t, "of the dimension 9", impl.ErrLimit, zeroDouble(2, [][]int64{{0, 0, 4}, {0, 1, 0}, {4, 0, 0}}))
	expectTotals(t, "of the dimension 9 above others", impl.ErrLimit, zeroDouble(2, [][]int64{{1, 1, 1}, {1, 1, 4}, {1, 4, 0}, {1, 0, 0}}))
	expectTotals(t, "of the greatest dimensions", impl.ErrLimit, zeroDouble(2, sameDims(4, 4, 4)))
	for _, k := range knownDoubles(6) {
		want := int64(impl.ErrNone)
		if !hasTotal(k.Double) {
			want = impl.ErrLimit
		}
		expectTotals(t, fmt.Sprint("of ", k.Double), want, k.Double)
	}
}
