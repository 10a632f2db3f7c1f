package tests

import (
	"fmt"
	"math"
	"slices"
	"testing"

	"loop.example/g01273/impl"
)

// expectSmith checks the Smith numbers and the rank of a matrix, and that the numbers divide each other.
func expectSmith(t *testing.T, want []int64, rows [][]int64) {
	t.Helper()
	smith, code := impl.SmithNumbers(rows)
	expectResults(t, fmt.Sprint("SmithNumbers ", rows), all(want, 0), all(smith, code))
	expectResults(t, fmt.Sprint("RankOfWhole ", rows), all(len(want), 0), all(impl.RankOfWhole(rows)))
	before := int64(1)
	for _, number := range smith {
		if number <= 0 || number%before != 0 {
			t.Errorf("SmithNumbers(%v) = %v do not divide each other", rows, smith)
		}
		before = number
	}
}

// expectDeterminant checks the determinant of a matrix: that of a square one is the product of its Smith
// numbers up to the sign, 0 if there are fewer of them; of another one there is none.
func expectDeterminant(t *testing.T, smith []int64, rows [][]int64) {
	t.Helper()
	name := fmt.Sprint("DeterminantOf ", rows)
	determinant, code := impl.DeterminantOf(rows)
	if len(rows) != widthOf(rows) {
		expectCode(t, name, impl.ErrRange, all(determinant, code))
		return
	}
	expectResults(t, name, all(plainDeterminant(rows, upTo(len(rows)), upTo(len(rows))), 0), all(determinant, code))
	product := int64(1)
	for _, number := range smith {
		product *= number
	}
	if len(smith) < len(rows) {
		product = 0
	}
	if absolute(determinant) != product {
		t.Errorf("%s = %d beside the Smith numbers %v", name, determinant, smith)
	}
}

// expectMatrix checks all that is told of a matrix against the plainest ways to find it.
func expectMatrix(t *testing.T, rows [][]int64) {
	t.Helper()
	smith := smithByDeterminants(rows)
	if other := smithByElimination(rows); !slices.Equal(smith, other) {
		t.Fatalf("%v: %v by determinants, %v by elimination", rows, smith, other)
	}
	expectSmith(t, smith, rows)
	expectDeterminant(t, smith, rows)
}

func TestConstantsOfChapter7(t *testing.T) {
	limits := []int64{impl.MaxWhole, impl.MaxWide, impl.MaxBockstein}
	if !slices.Equal(limits, []int64{9, 6, 10}) {
		t.Errorf("limits %v", limits)
	}
}

func TestSmithNumbersByHand(t *testing.T) {
	for _, c := range []struct{ rows, want [][]int64 }{
		{[][]int64{{2, 4}, {6, 8}}, [][]int64{{2, 4}}},
		{[][]int64{{2, 0}, {0, 3}}, [][]int64{{1, 6}}},
		{[][]int64{{4, 0}, {0, 6}}, [][]int64{{2, 12}}},
		{[][]int64{{8, 0}, {0, 4}}, [][]int64{{4, 8}}},
		{[][]int64{{4, 6, 9}}, [][]int64{{1}}},
		{[][]int64{{4}, {6}, {-8}}, [][]int64{{2}}},
		{[][]int64{{6, -9}}, [][]int64{{3}}},
		{[][]int64{{-7}}, [][]int64{{7}}},
		{[][]int64{{0}}, [][]int64{{}}},
		{[][]int64{{0, 0, 0}, {0, 0, 0}}, [][]int64{{}}},
		{[][]int64{{0, 0, 0}, {0, 0, 5}}, [][]int64{{5}}},
		{[][]int64{{1, 2}, {2, 4}, {0, 0}}, [][]int64{{1}}},
		{[][]int64{{1, 2, 3}, {4, 5, 6}, {7, 8, 9}}, [][]int64{{1, 3}}},
		{[][]int64{{2, 0, 0}, {0, 3, 0}, {0, 0, 5}}, [][]int64{{1, 1, 30}}},
		{[][]int64{{6, 0, 0}, {0, 4, 0}, {0, 0, 9}}, [][]int64{{1, 6, 36}}},
		{[][]int64{{8, 1, 0, 0}, {0, 8, 1, 0}, {0, 0, 8, 1}, {0, 0, 0, 8}}, [][]int64{{1, 1, 1, 4096}}},
	} {
		expectSmith(t, c.want[0], c.rows)
		expectMatrix(t, c.rows)
	}
}

func TestDeterminantsByHand(t *testing.T) {
	for _, c := range []struct {
		rows [][]int64
		want int64
	}{
		{nil, 1}, {[][]int64{}, 1}, {[][]int64{{0}}, 0}, {[][]int64{{-5}}, -5}, {[][]int64{{1, 2}, {3, 4}}, -2}, {[][]int64{{0, 1}, {1, 0}}, -1},
		{[][]int64{{1, 2, 0}, {3, 4, 1}, {0, 1, 2}}, -5}, {[][]int64{{0, 0, 1}, {1, 0, 0}, {0, 1, 0}}, 1}, {[][]int64{{0, 0, 2}, {0, 3, 0}, {5, 0, 0}}, -30},
		{[][]int64{{1, 2, 3}, {4, 5, 6}, {7, 8, 9}}, 0}, {[][]int64{{1, 0, 0, 0}, {0, 1, 0, 0}, {0, 0, 0, 1}, {0, 0, 1, 0}}, -1},
	} {
		expectResults(t, fmt.Sprint("DeterminantOf ", c.rows), all(c.want, 0), all(impl.DeterminantOf(c.rows)))
	}
}

// TestMatricesWithoutNumbers has no rows, rows without numbers, and zeros.
func TestMatricesWithoutNumbers(t *testing.T) {
	expectMatrix(t, nil)
	expectMatrix(t, [][]int64{})
	for n := int64(1); n <= impl.MaxWide; n++ {
		expectMatrix(t, zeros(n, 0))
		expectMatrix(t, make([][]int64, n)) // the rows are nil
		expectCode(t, fmt.Sprintf("DeterminantOf %d rows without numbers", n), impl.ErrRange, all(impl.DeterminantOf(zeros(n, 0))))
		for m := int64(1); m <= impl.MaxWide; m++ {
			expectMatrix(t, zeros(n, m))
		}
	}
}

// matricesOf lists all matrices of the given size with some numbers.
func matricesOf(rows int64, columns int64, some []int64) [][][]int64 {
	var list [][][]int64
	for _, places := range allRows(int64(len(some)), rows*columns) {
		table := zeros(rows, columns)
		for at, place := range places {
			table[int64(at)/columns][int64(at)%columns] = some[place]
		}
		list = append(list, table)
	}
	return list
}

func TestAllSmallMatrices(t *testing.T) {
	wide := []int64{-9, -8, -7, -6, -5, -4, -3, -2, -1, 0, 1, 2, 3, 4, 5, 6, 7, 8, 9}
	for _, c := range []struct {
		rows, columns int64
		some          []int64
	}{
		{1, 1, wide}, {1, 2, wide}, {2, 1, wide}, {1, 3, []int64{-9, -4, 0, 6, 8}}, {3, 1, []int64{-9, -4, 0, 6, 8}}, {2, 2, []int64{-9, -8, -3, -1, 0, 2, 4, 5, 6}},
		{2, 3, []int64{-2, 0, 3, 4}}, {3, 2, []int64{-2, 0, 3, 4}}, {3, 3, []int64{0, 2, -3}}, {3, 3, []int64{-1, 1}}, {2, 4, []int64{-6, 0, 9}}, {4, 4, []int64{0, 1}},
	} {
		for at, rows := range matricesOf(c.rows, c.columns, c.some) {
			if c.rows < 4 || at%11 == 0 {
				expectMatrix(t, rows)
			}
		}
	}
}

func TestMatricesOfAllSizes(t *testing.T) {
	g := &numbers{state: 91}
	for n := int64(1); n <= impl.MaxWide; n++ {
		for m := int64(1); m <= impl.MaxWide; m++ {
			for _, bound := range []int64{1, 2, 4, impl.MaxWhole} {
				for range 6 {
					expectMatrix(t, g.matrix(n, m, bound))
				}
			}
			for factor := int64(2); factor <= 4; factor++ { // so that no Smith number is 1
				expectMatrix(t, timesNumber(g.matrix(n, m, impl.MaxWhole/factor), factor))
			}
			sparse := g.matrix(n, m, impl.MaxWhole)
			for _, row := range sparse {
				for j := range row {
					row[j] *= (g.below(3) + 1) % 3 / 2
				}
			}
			expectMatrix(t, sparse)
		}
	}
}

// TestMatricesOfKnownSmithNumbers has matrices of each rank with rows and columns mixed, among them such
// with rows or columns that are the sums of others.
func TestMatricesOfKnownSmithNumbers(t *testing.T) {
	greatest := 0
	for _, k := range knownWholes(8) {
		for n, table := range k.Maps {
			want := slices.Repeat([]int64{1}, plainRankOf(table)-len(k.parts(n)))
			want = append(want, k.parts(n)...)
			expectSmith(t, want, table)
			expectSmith(t, want, turned(table, k.Dims[n]))
			expectDeterminant(t, want, table)
			greatest = max(greatest, len(k.parts(n)))
		}
	}
	if greatest < 4 {
		t.Errorf("at most %d Smith numbers greater than 1", greatest)
	}
}

// plainRankOf returns the rank of a matrix by elimination.
func plainRankOf(rows [][]int64) int { return len(smithByElimination(rows)) }

// TestChangesOfMatrices exchanges rows, and columns, and adds one row to another one.
func TestChangesOfMatrices(t *testing.T) {
	g := &numbers{state: 92}
	for n := int64(2); n <= impl.MaxWide; n++ {
		for range 30 {
			rows := g.matrix(n, n, 4)
			smith, _ := impl.SmithNumbers(rows)
			determinant, code := impl.DeterminantOf(rows)
			expectCode(t, "DeterminantOf", impl.ErrNone, all(determinant, code))
			i, j := g.twoPlaces(n)
			exchanged := cloned(rows)
			exchanged[i], exchanged[j] = exchanged[j], exchanged[i]
			expectResults(t, "determinant with rows exchanged", all(-determinant, 0), all(impl.DeterminantOf(exchanged)))
			expectSmith(t, smith, exchanged)
			expectResults(t, "determinant turned", all(determinant, 0), all(impl.DeterminantOf(turned(rows, n))))
			expectSmith(t, smith, turned(rows, n))
			added := cloned(rows)
			for c := range added[i] {
				added[i][c] += added[j][c]
			}
			expectResults(t, "determinant with a row added", all(determinant, 0), all(impl.DeterminantOf(added)))
			expectSmith(t, smith, added)
			expectResults(t, "determinant times 2", all(determinant<<n, 0), all(impl.DeterminantOf(timesNumber(rows, 2))))
		}
	}
}

// TestGreatestDeterminants has the greatest and the least determinants of each size.
func TestGreatestDeterminants(t *testing.T) {
	for n, want := range []int64{1, 9, 162, 2916, 104976, 2834352, 85030560} {
		if n == 0 {
			continue
		}
		rows := greatestMatrix(int64(n))
		expectResults(t, fmt.Sprint("greatest determinant of ", n), all(want, 0), all(impl.DeterminantOf(rows)))
		expectMatrix(t, rows)
		for i := range rows[0] {
			rows[0][i] = -rows[0][i]
		}
		expectResults(t, fmt.Sprint("least determinant of ", n), all(-want, 0), all(impl.DeterminantOf(rows)))
		expectMatrix(t, rows)
	}
	expectSmith(t, []int64{9, 18, 18, 18, 18, 90}, greatestMatrix(6))
}

func TestGreatSmithNumbers(t *testing.T) {
	for _, c := range greatTorsions() {
		expectSmith(t, []int64{1, 1, 1, 1, 1, c.order}, c.rows)
		expectMatrix(t, c.rows)
	}
}

// TestNumbersOfMatricesAtTheirLimits has numbers of MaxWhole and -MaxWhole, and one more, at each place.
func TestNumbersOfMatricesAtTheirLimits(t *testing.T) {
	for n := int64(1); n <= impl.MaxWide; n++ {
		for m := int64(1); m <= impl.MaxWide; m++ {
			for i := range n {
				for j := range m {
					rows := zeros(n, m)
					for _, number := range []int64{impl.MaxWhole, -impl.MaxWhole} {
						rows[i][j] = number
						expectSmith(t, []int64{impl.MaxWhole}, rows)
					}
					for _, number := range []int64{impl.MaxWhole + 1, -impl.MaxWhole - 1} {
						rows[i][j] = number
						expectNoMatrix(t, rows)
					}
				}
			}
			full := zeros(n, m)
			for _, row := range full {
				copy(row, []int64{9, 9, 9, 9, 9, 9})
			}
			expectMatrix(t, full)
			expectMatrix(t, timesNumber(full, -1))
		}
	}
}

// expectNoMatrix checks that all functions on matrices refuse a list.
func expectNoMatrix(t *testing.T, rows [][]int64) {
	t.Helper()
	expectCode(t, fmt.Sprint("SmithNumbers ", rows), impl.ErrRange, all(impl.SmithNumbers(rows)))
	expectCode(t, fmt.Sprint("DeterminantOf ", rows), impl.ErrRange, all(impl.DeterminantOf(rows)))
	expectCode(t, fmt.Sprint("RankOfWhole ", rows), impl.ErrRange, all(impl.RankOfWhole(rows)))
}

// noMatrices lists what is no matrix.
func noMatrices() [][][]int64 {
	list := [][][]int64{zeros(7, 0), zeros(7, 1), zeros(7, 6), zeros(7, 7), zeros(1, 7), zeros(6, 7), zeros(1000, 0), zeros(1, 1000), zeros(40, 40), make([][]int64, 7)}
	for n := int64(2); n <= impl.MaxWide; n++ {
		for m := int64(0); m <= impl.MaxWide; m++ {
			for i := range n {
				longer, shorter, without := zeros(n, m), zeros(n, m), zeros(n, m)
				longer[i] = append(longer[i], 0)
				list = append(list, longer)
				if m > 0 {
					shorter[i], without[i] = shorter[i][1:], nil
					list = append(list, shorter, without)
				}
			}
		}
	}
	for _, far := range wholeFar() {
		list = append(list, [][]int64{{far}}, [][]int64{{0, 0}, {0, far}}, [][]int64{{0, far, 0}}, [][]int64{{0}, {far}, {0}}, [][]int64{{far}, {0, 0}})
	}
	return list
}

// wholeFar lists numbers that no matrix has, among them such as are small if bits are cut off.
func wholeFar() []int64 {
	return []int64{10, -10, 11, -11, 41, 256, 1 << 31, -(1 << 31), 1 << 32, -(1 << 32), 1<<32 + 1, math.MaxInt64, math.MinInt64, math.MinInt64 + 1}
}

func TestWhatIsNoMatrix(t *testing.T) {
	for _, rows := range noMatrices() {
		expectNoMatrix(t, rows)
	}
	g := &numbers{state: 93}
	for n := int64(0); n <= impl.MaxWide; n++ { // not square
		for m := int64(0); m <= impl.MaxWide; m++ {
			if n != m && n > 0 {
				expectCode(t, fmt.Sprintf("DeterminantOf %d rows of %d", n, m), impl.ErrRange, all(impl.DeterminantOf(g.matrix(n, m, 9))))
			}
		}
	}
}
