package tests

import (
	"fmt"
	"slices"
	"testing"

	"loop.example/g01273/impl"
)

// leveled returns the complex with a text and levels.
func leveled(t *testing.T, text string, levels ...[]int64) impl.Filtered {
	t.Helper()
	x := impl.Filtered{Complex: parsed(t, text), Levels: levels}
	if !impl.IsFiltered(x) {
		t.Fatalf("IsFiltered(%v) = false", x)
	}
	return x
}

// numberOf returns the number of the page r at n and q, 0 beyond all degrees and levels.
func numberOf(t *testing.T, x impl.Filtered, r int64, n int64, q int64) int64 {
	t.Helper()
	if n < 0 || int(n) >= len(x.Levels) || q < 0 || q > impl.MaxLevel {
		return 0
	}
	number, code := impl.PageNumber(x, r, n, q)
	if code != impl.ErrNone {
		t.Fatalf("PageNumber(%v, %d, %d, %d): code %d", x, r, n, q, code)
	}
	return number
}

// rankOf returns the rank of the page differential of r at n and q, 0 beyond all degrees and levels.
func rankOf(t *testing.T, x impl.Filtered, r int64, n int64, q int64) int64 {
	t.Helper()
	if n < 0 || int(n) >= len(x.Levels) || q < 0 || q > impl.MaxLevel {
		return 0
	}
	rank, code := impl.DifferentialRank(x, r, n, q)
	if code != impl.ErrNone {
		t.Fatalf("DifferentialRank(%v, %d, %d, %d): code %d", x, r, n, q, code)
	}
	return rank
}

// rowsOf returns the rows of a result, and fails if there is an error beside them.
func rowsOf(t *testing.T, name string, rows [][]int64, code int64) [][]int64 {
	t.Helper()
	if code != impl.ErrNone {
		t.Fatalf("%s: code %d", name, code)
	}
	return rows
}

// cell is a place of a page.
type cell struct{ r, n, q int64 }

// cellsOf lists all places of all pages of x.
func cellsOf(x impl.Filtered) []cell {
	var cells []cell
	for r := range int64(impl.MaxPage + 1) {
		for n := range int64(len(x.Levels)) {
			for q := range int64(impl.MaxLevel + 1) {
				cells = append(cells, cell{r, n, q})
			}
		}
	}
	return cells
}

func TestLimitsOfLevelsAndPages(t *testing.T) {
	if limits := []int64{impl.MaxLevel, impl.MaxPage}; !slices.Equal(limits, []int64{5, 8}) {
		t.Errorf("limits %v", limits)
	}
}

func TestTriangleByLevels(t *testing.T) {
	// three vertices of the levels 0, 1 and 1, three edges of the levels 1, 2 and 4, and the face of the level 5
	x := leveled(t, "3:3,3,1:210,201,021;121", []int64{0, 1, 1}, []int64{1, 2, 4}, []int64{5})
	expectResults(t, "page 0", all([][]int64{{1, 2, 0, 0, 0, 0}, {0, 1, 1, 0, 1, 0}, {0, 0, 0, 0, 0, 1}}, 0), all(impl.PageTable(x, 0)))
	expectResults(t, "page 1", all([][]int64{{1, 1, 0, 0, 0, 0}, {0, 0, 1, 0, 1, 0}, {0, 0, 0, 0, 0, 1}}, 0), all(impl.PageTable(x, 1)))
	expectResults(t, "page 2", all([][]int64{{1, 0, 0, 0, 0, 0}, {0, 0, 0, 0, 0, 0}, {0, 0, 0, 0, 0, 0}}, 0), all(impl.PageTable(x, 2)))
	expectResults(t, "Z(3, 4)", all([][]int64{{1, 0, 0}, {0, 1, 0}, {0, 0, 1}}, 0), all(impl.ApproximateCycles(x, 3, 1, 4)))
	expectResults(t, "Z(4, 4)", all([][]int64{{1, 2, 1}}, 0), all(impl.ApproximateCycles(x, 4, 1, 4)))
	expectResults(t, "Z(1, 1)", all([][]int64{}, 0), all(impl.ApproximateCycles(x, 1, 1, 1)))
	expectResults(t, "bottom 1 of the vertices", all([][]int64{{1, 0, 0}, {0, 1, 0}}, 0), all(impl.BottomOf(x, 1, 0, 1)))
	expectResults(t, "bottom 2 of the vertices", all([][]int64{{1, 0, 0}, {0, 1, 0}, {0, 0, 1}}, 0), all(impl.BottomOf(x, 2, 0, 1)))
	expectResults(t, "basis 1 of the edges", all([][]int64{{0, 0, 1}}, 0), all(impl.PageBasis(x, 1, 1, 4)))
	expectResults(t, "differential 1 of the face", all([][]int64{{1}}, 0), all(impl.PageDifferential(x, 1, 2, 5)))
	expectResults(t, "last", all(2, 0), all(impl.LastPage(x)))
}

func TestEdgeOfLevels(t *testing.T) {
	// an edge of the level 5 from a vertex of the level 4 to one of the level 0
	x := leveled(t, "5:2,1:41", []int64{4, 0}, []int64{5})
	expectResults(t, "Z(1, 5)", all([][]int64{{1}}, 0), all(impl.ApproximateCycles(x, 1, 1, 5)))
	expectResults(t, "Z(2, 5)", all([][]int64{}, 0), all(impl.ApproximateCycles(x, 2, 1, 5)))
	expectResults(t, "Z(0, 4)", all([][]int64{{1, 0}, {0, 1}}, 0), all(impl.ApproximateCycles(x, 0, 0, 4)))
	expectResults(t, "bottom 1", all([][]int64{{0, 1}}, 0), all(impl.BottomOf(x, 1, 0, 4)))
	expectResults(t, "bottom 2", all([][]int64{{1, 0}, {0, 1}}, 0), all(impl.BottomOf(x, 2, 0, 4)))
	expectResults(t, "basis", all([][]int64{{1, 0}}, 0), all(impl.PageBasis(x, 1, 0, 4)))
	expectResults(t, "differential", all([][]int64{{4}}, 0), all(impl.PageDifferential(x, 1, 1, 5)))
	expectResults(t, "differential beside it", all([][]int64{{}}, 0), all(impl.PageDifferential(x, 0, 1, 5)))
	expectResults(t, "rank", all(1, 0), all(impl.DifferentialRank(x, 1, 1, 5)))
	expectResults(t, "limits", all(1, 0), all(impl.LimitNumber(x, 0, 0)))
	expectResults(t, "limits", all(0, 0), all(impl.LimitNumber(x, 0, 4)))
	expectResults(t, "last", all(2, 0), all(impl.LastPage(x)))
}

func TestLongestDifferential(t *testing.T) {
	// from the level MaxLevel to the level 0
	x := leveled(t, "7:1,1:3", []int64{0}, []int64{impl.MaxLevel})
	for r := range int64(impl.MaxPage + 1) {
		left, rank := int64(1), int64(0)
		if r > impl.MaxLevel {
			left = 0
		}
		if r == impl.MaxLevel {
			rank = 1
		}
		expectResults(t, fmt.Sprint("number above ", r), all(left, 0), all(impl.PageNumber(x, r, 1, impl.MaxLevel)))
		expectResults(t, fmt.Sprint("number below ", r), all(left, 0), all(impl.PageNumber(x, r, 0, 0)))
		expectResults(t, fmt.Sprint("rank ", r), all(rank, 0), all(impl.DifferentialRank(x, r, 1, impl.MaxLevel)))
	}
	expectResults(t, "differential", all([][]int64{{3}}, 0), all(impl.PageDifferential(x, impl.MaxLevel, 1, impl.MaxLevel)))
	expectResults(t, "last", all(impl.MaxLevel+1, 0), all(impl.LastPage(x)))
}

func TestLastPagesOfFlatComplexes(t *testing.T) {
	for text, want := range map[string]int64{"2:1,1:1": 1, "2:1,1:0": 0, "3:3,3,1:210,201,021;121": 1, "5:0:": 0, "7:8:": 0, "2:8,8,8,8,8,8:" + zeroMapsText(5): 0} {
		for q := range int64(impl.MaxLevel + 1) {
			x, code := impl.FlatFiltered(parsed(t, text), q)
			expectCode(t, "FlatFiltered "+text, impl.ErrNone, all(x, code))
			expectResults(t, fmt.Sprintf("LastPage of %q at %d", text, q), all(want, 0), all(impl.LastPage(x)))
		}
	}
}

// checkSpacesPlainly holds the spaces and the differential of a page against all vectors.
func checkSpacesPlainly(t *testing.T, x impl.Filtered, c cell) {
	t.Helper()
	name := fmt.Sprintf("%v at %v", x, c)
	p, dim := x.Complex.Prime, x.Complex.Dims[c.n]
	cycles, bottom := plainApproximate(x, c.r, c.n, c.q), setOf(plainBottom(x, c.r, c.n, c.q))
	zs, zCode := impl.ApproximateCycles(x, c.r, c.n, c.q)
	bs, bCode := impl.BottomOf(x, c.r, c.n, c.q)
	basis, code := impl.PageBasis(x, c.r, c.n, c.q)
	if zCode != impl.ErrNone || bCode != impl.ErrNone || code != impl.ErrNone {
		t.Errorf("%s: codes %d, %d, %d", name, zCode, bCode, code)
	}
	expectSpace(t, "ApproximateCycles "+name, p, dim, zs, setOf(cycles))
	expectSpace(t, "BottomOf "+name, p, dim, bs, bottom)
	classes := keep(cycles, func(v []int64) bool {
		return !slices.ContainsFunc(bs, func(row []int64) bool { return v[leadPlace(row)] != 0 })
	})
	expectSpace(t, "PageBasis "+name, p, dim, basis, setOf(classes))
	number := dimensionOf(p, len(cycles)) - dimensionOf(p, len(bottom))
	expectResults(t, "PageNumber "+name, all(number, 0), all(impl.PageNumber(x, c.r, c.n, c.q)))
	if int64(len(basis)) != number {
		t.Errorf("PageBasis %s: %d vectors, want %d", name, len(basis), number)
	}
}

// targetOf returns the page basis and the list of the bottom to which a page differential leads.
func targetOf(t *testing.T, x impl.Filtered, c cell) ([][]int64, [][]int64) {
	t.Helper()
	if c.n == 0 || c.q < c.r {
		return nil, nil
	}
	basis, code := impl.PageBasis(x, c.r, c.n-1, c.q-c.r)
	basis = rowsOf(t, "PageBasis", basis, code)
	bottom, code := impl.BottomOf(x, c.r, c.n-1, c.q-c.r)
	return basis, rowsOf(t, "BottomOf", bottom, code)
}

// checkDifferential checks that each row of a page differential tells the differential of its vector
// of the page basis, up to the bottom, and returns the table.
func checkDifferential(t *testing.T, x impl.Filtered, c cell) [][]int64 {
	t.Helper()
	name := fmt.Sprintf("PageDifferential of %v at %v", x, c)
	p := x.Complex.Prime
	table, code := impl.PageDifferential(x, c.r, c.n, c.q)
	table = rowsOf(t, name, table, code)
	basis, code := impl.PageBasis(x, c.r, c.n, c.q)
	basis = rowsOf(t, name, basis, code)
	target, bottom := targetOf(t, x, c)
	if len(table) != len(basis) {
		t.Fatalf("%s = %v for %d vectors", name, table, len(basis))
	}
	for i, row := range table {
		if len(row) != len(target) || slices.ContainsFunc(row, func(number int64) bool { return number < 0 || number >= p }) {
			t.Fatalf("%s = %v for %d vectors below", name, table, len(target))
		}
		if c.n == 0 {
			continue
		}
		rest := plainDifferential(x.Complex, c.n, basis[i])
		told := timesTable(p, row, target, int64(len(rest)))
		for place := range rest {
			rest[place] = (rest[place] + p - told[place]) % p
		}
		if plainRank(p, append(slices.Clone(bottom), rest)) != len(bottom) {
			t.Errorf("%s: row %d of %v leaves %v", name, i, table, rest)
		}
	}
	return table
}

func TestSmallPagesAgainstAllVectors(t *testing.T) {
	for _, x := range smallFiltereds(4) {
		if !impl.IsFiltered(x) {
			t.Fatalf("IsFiltered(%v) = false", x)
		}
		for _, c := range cellsOf(x) {
			checkSpacesPlainly(t, x, c)
			table := checkDifferential(t, x, c)
			expectResults(t, fmt.Sprintf("DifferentialRank of %v at %v", x, c), all(plainRank(x.Complex.Prime, table), 0),
				all(impl.DifferentialRank(x, c.r, c.n, c.q)))
		}
	}
}

func TestSmallLimitsAgainstAllVectors(t *testing.T) {
	for _, x := range smallFiltereds(4) {
		want := make([][]int64, len(x.Levels))
		for n := range want {
			before := int64(0)
			for q := int64(-1); q <= impl.MaxLevel; q++ {
				var dimension int64
				if n+1 < len(want) {
					dimension = dimensionOf(x.Complex.Prime, len(setOf(plainLimitSpace(x, int64(n), q))))
				} else {
					dimension = dimensionOf(x.Complex.Prime, len(plainApproximate(x, impl.MaxPage, int64(n), q)))
				}
				if q >= 0 {
					want[n] = append(want[n], dimension-before)
					expectResults(t, fmt.Sprintf("LimitNumber of %v at %d, %d", x, n, q), all(dimension-before, 0), all(impl.LimitNumber(x, int64(n), q)))
				}
				before = dimension
			}
		}
		last := int64(0)
		for ; ; last++ {
			table, code := impl.PageTable(x, last)
			if fmt.Sprint(rowsOf(t, "PageTable", table, code)) == fmt.Sprint(want) {
				break
			}
		}
		expectResults(t, fmt.Sprint("LastPage ", x), all(last, 0), all(impl.LastPage(x)))
	}
}

func TestKnownPages(t *testing.T) {
	for _, k := range knownFiltereds(4) {
		x := k.Filtered
		for _, c := range cellsOf(x) {
			name := fmt.Sprintf("%v at %v", x, c)
			expectResults(t, "PageNumber "+name, all(k.pageNumber(c.r, c.n, c.q), 0), all(impl.PageNumber(x, c.r, c.n, c.q)))
			expectResults(t, "DifferentialRank "+name, all(k.rank(c.r, c.n, c.q), 0), all(impl.DifferentialRank(x, c.r, c.n, c.q)))
			expectResults(t, "LimitNumber "+name, all(k.lasting(c.n, c.q), 0), all(impl.LimitNumber(x, c.n, c.q)))
		}
		for r := range int64(impl.MaxPage + 1) {
			want := make([][]int64, len(x.Levels))
			for n := range want {
				for q := range int64(impl.MaxLevel + 1) {
					want[n] = append(want[n], k.pageNumber(r, int64(n), q))
				}
			}
			expectResults(t, fmt.Sprintf("PageTable %v of %d", x, r), all(want, 0), all(impl.PageTable(x, r)))
		}
		expectResults(t, fmt.Sprint("LastPage ", x), all(k.lastPage(), 0), all(impl.LastPage(x)))
	}
}

func TestKnownSpacesOfPages(t *testing.T) {
	for _, k := range knownFiltereds(3) {
		x := k.Filtered
		for _, c := range cellsOf(x) {
			name := fmt.Sprintf("%v at %v", x, c)
			p, dim := x.Complex.Prime, x.Complex.Dims[c.n]
			zs, _ := impl.ApproximateCycles(x, c.r, c.n, c.q)
			bs, _ := impl.BottomOf(x, c.r, c.n, c.q)
			basis, _ := impl.PageBasis(x, c.r, c.n, c.q)
			if !isReducedList(p, dim, zs) || int64(len(zs)) != k.cycleCount(c.r, c.n, c.q) {
				t.Errorf("ApproximateCycles %s = %v", name, zs)
			}
			if slices.ContainsFunc(zs, func(v []int64) bool { return !isApproximate(x, c.r, c.n, c.q, v) }) {
				t.Errorf("ApproximateCycles %s = %v", name, zs)
			}
			if int64(len(bs)) != k.cycleCount(c.r, c.n, c.q)-k.pageNumber(c.r, c.n, c.q) || int64(len(basis)) != k.pageNumber(c.r, c.n, c.q) {
				t.Errorf("%s: %v and %v", name, bs, basis)
			}
			expectSameSpace(t, "BottomOf "+name, p, dim, bs, bs)
			expectSameSpace(t, "PageBasis "+name, p, dim, basis, basis)
			expectSameSpace(t, "ApproximateCycles "+name, p, dim, zs, slices.Concat(bs, basis))
			for _, row := range basis {
				if slices.ContainsFunc(bs, func(b []int64) bool { return row[leadPlace(b)] != 0 }) {
					t.Errorf("PageBasis %s: %v not 0 at the places of %v", name, row, bs)
				}
			}
		}
	}
}

func TestPagesAreTheHomologyOfThePagesBefore(t *testing.T) {
	var list []impl.Filtered
	for _, k := range knownFiltereds(3) {
		list = append(list, k.Filtered)
	}
	for _, x := range append(list, smallFiltereds(6)...) {
		for _, c := range cellsOf(x) {
			if c.r == impl.MaxPage {
				continue
			}
			want := numberOf(t, x, c.r, c.n, c.q) - rankOf(t, x, c.r, c.n, c.q) - rankOf(t, x, c.r, c.n+1, c.q+c.r)
			if got := numberOf(t, x, c.r+1, c.n, c.q); got != want {
				t.Errorf("%v at %v: the page after has the number %d, its homology is %d", x, c, got, want)
			}
		}
	}
}

func TestPageDifferentialsTwiceAreZero(t *testing.T) {
	for _, k := range knownFiltereds(4) {
		for _, c := range cellsOf(k.Filtered) {
			table := checkDifferential(t, k.Filtered, c)
			if c.n < 2 || c.q < 2*c.r {
				continue
			}
			next, code := impl.PageDifferential(k.Filtered, c.r, c.n-1, c.q-c.r)
			below := numberOf(t, k.Filtered, c.r, c.n-2, c.q-2*c.r)
			for _, row := range table {
				if twice := timesTable(k.Complex.Prime, row, rowsOf(t, "PageDifferential", next, code), below); !isZeroRow(twice) {
					t.Errorf("page differentials of %v at %v twice: %v", k.Filtered, c, twice)
				}
			}
		}
	}
}

func TestLimitNumbersAddUpToHomology(t *testing.T) {
	for _, k := range knownFiltereds(8) {
		homology := homologyOf(t, k.Complex)
		for n := range homology {
			sum := int64(0)
			for q := range int64(impl.MaxLevel + 1) {
				limit, code := impl.LimitNumber(k.Filtered, int64(n), q)
				expectCode(t, "LimitNumber", impl.ErrNone, all(limit, code))
				sum += limit
			}
			if sum != homology[n] {
				t.Errorf("%v at %d: limit numbers add up to %d, homology number %d", k.Filtered, n, sum, homology[n])
			}
		}
	}
}

func TestRowsWithoutNumbers(t *testing.T) {
	x := leveled(t, "3:2,2:12,00", []int64{0, 0}, []int64{2, 1})
	expectResults(t, "degree 0", all([][]int64{{}, {}}, 0), all(impl.PageDifferential(x, 1, 0, 0)))
	expectResults(t, "degree 0, page 0", all([][]int64{{}, {}}, 0), all(impl.PageDifferential(x, 0, 0, 0)))
	expectResults(t, "level less than r", all([][]int64{{}}, 0), all(impl.PageDifferential(x, 3, 1, 1)))
	expectResults(t, "level less than r by one", all([][]int64{{}}, 0), all(impl.PageDifferential(x, 2, 1, 1)))
	expectResults(t, "level of r", all([][]int64{{0, 0}}, 0), all(impl.PageDifferential(x, 1, 1, 1)))
	expectResults(t, "level of r", all([][]int64{{1, 2}}, 0), all(impl.PageDifferential(x, 2, 1, 2)))
	expectResults(t, "nothing there", all([][]int64{}, 0), all(impl.PageDifferential(x, 3, 1, 2)))
	expectResults(t, "nothing there", all([][]int64{}, 0), all(impl.PageDifferential(x, impl.MaxPage, 1, impl.MaxLevel)))
	expectResults(t, "rank 0", all(0, 0), all(impl.DifferentialRank(x, 1, 0, 0)))
	expectResults(t, "rank 0", all(0, 0), all(impl.DifferentialRank(x, 3, 1, 1)))
}

func TestLargePages(t *testing.T) {
	x := leveled(t, "3:2,2:12,00", []int64{0, 0}, []int64{2, 1})
	for r := int64(3); r <= impl.MaxPage; r++ {
		expectResults(t, fmt.Sprint("cycles ", r), all([][]int64{{0, 1}}, 0), all(impl.ApproximateCycles(x, r, 1, 2)))
		expectResults(t, fmt.Sprint("cycles of the degree 0 ", r), all([][]int64{{1, 0}, {0, 1}}, 0), all(impl.ApproximateCycles(x, r, 0, 0)))
		expectResults(t, fmt.Sprint("bottom of the degree 0 ", r), all([][]int64{{1, 2}}, 0), all(impl.BottomOf(x, r, 0, 0)))
		expectResults(t, fmt.Sprint("bottom ", r), all([][]int64{}, 0), all(impl.BottomOf(x, r, 1, 1)))
		expectResults(t, fmt.Sprint("bottom above ", r), all([][]int64{{0, 1}}, 0), all(impl.BottomOf(x, r, 1, 2)))
		expectResults(t, fmt.Sprint("table ", r), all([][]int64{{1, 0, 0, 0, 0, 0}, {0, 1, 0, 0, 0, 0}}, 0), all(impl.PageTable(x, r)))
	}
	expectResults(t, "bottom of page 0", all([][]int64{{0, 1}}, 0), all(impl.BottomOf(x, 0, 1, 2)))
	expectResults(t, "bottom of page 0 and level 0", all([][]int64{}, 0), all(impl.BottomOf(x, 0, 0, 0)))
	expectResults(t, "bottom of page 0 above all", all([][]int64{{1, 0}, {0, 1}}, 0), all(impl.BottomOf(x, 0, 1, impl.MaxLevel)))
}

func TestPagesAtTheGreatestDimensions(t *testing.T) {
	g := &numbers{state: 19}
	for _, p := range []int64{2, 7} {
		var pieces []piece
		for n := range int64(impl.MaxTop + 1) {
			for i := range int64(impl.MaxDim) {
				if n%2 == 0 {
					pieces = append(pieces, piece{n, i % 3, 3 + i%3})
				}
			}
		}
		k := filteredOf(g, p, impl.MaxTop, pieces)
		if !slices.Equal(k.Complex.Dims, slices.Repeat([]int64{impl.MaxDim}, impl.MaxTop+1)) {
			t.Fatalf("dimensions %v", k.Complex.Dims)
		}
		for _, c := range cellsOf(k.Filtered) {
			expectResults(t, fmt.Sprint("PageNumber ", c), all(k.pageNumber(c.r, c.n, c.q), 0), all(impl.PageNumber(k.Filtered, c.r, c.n, c.q)))
			checkDifferential(t, k.Filtered, c)
		}
		expectResults(t, "LastPage", all(k.lastPage(), 0), all(impl.LastPage(k.Filtered)))
	}
}
