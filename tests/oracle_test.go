package tests

import (
	"fmt"
	"slices"
	"testing"

	"loop.example/g01273/impl"
)

// The functions of this file find, in the plainest way, what the tests hold the program against.

// allRows lists all rows of n numbers modulo p.
func allRows(p int64, n int64) [][]int64 {
	list := [][]int64{{}}
	for range n {
		var longer [][]int64
		for _, row := range list {
			for number := range p {
				longer = append(longer, append(slices.Clone(row), number))
			}
		}
		list = longer
	}
	return list
}

// timesTable returns the sum of the numbers of v times the rows of a table.
func timesTable(p int64, v []int64, table [][]int64, columns int64) []int64 {
	sum := make([]int64, columns)
	for j := range sum {
		for i := range v {
			sum[j] += v[i] * table[i][j]
		}
		sum[j] %= p
	}
	return sum
}

// plainDifferential returns the differential of a vector of the degree n.
func plainDifferential(x impl.Complex, n int64, v []int64) []int64 {
	if n == 0 {
		return []int64{}
	}
	return timesTable(x.Prime, v, x.Maps[n-1], x.Dims[n-1])
}

// isZeroRow reports whether all numbers of a row are 0.
func isZeroRow(row []int64) bool {
	return !slices.ContainsFunc(row, func(number int64) bool { return number != 0 })
}

// plainIsComplex reports whether the differential of each differential is 0.
func plainIsComplex(x impl.Complex) bool {
	for n := 2; n < len(x.Dims); n++ {
		for _, row := range x.Maps[n-1] {
			if !isZeroRow(plainDifferential(x, int64(n-1), row)) {
				return false
			}
		}
	}
	return true
}

// leadPlace returns the place of the first number other than 0, the length of the row if there is none.
func leadPlace(row []int64) int {
	for place, number := range row {
		if number != 0 {
			return place
		}
	}
	return len(row)
}

// isReducedList reports whether a list of rows of n numbers modulo p is one that tells a space.
func isReducedList(p int64, n int64, list [][]int64) bool {
	before := -1
	for i, row := range list {
		lead := leadPlace(row)
		if int64(len(row)) != n || lead <= before || lead >= len(row) || row[lead] != 1 {
			return false
		}
		before = lead
		for j, other := range list {
			if i != j && lead < len(other) && other[lead] != 0 {
				return false
			}
		}
		if slices.Min(row) < 0 || slices.Max(row) >= p {
			return false
		}
	}
	return true
}

// rowSet is a set of rows by what they print as.
type rowSet map[string]bool

func setOf(rows [][]int64) rowSet {
	set := rowSet{}
	for _, row := range rows {
		set[fmt.Sprint(row)] = true
	}
	return set
}

// sumsOf returns the set of all sums of multiples of rows of n numbers.
func sumsOf(p int64, n int64, rows [][]int64) rowSet {
	var sums [][]int64
	for _, factors := range allRows(p, int64(len(rows))) {
		sums = append(sums, timesTable(p, factors, rows, n))
	}
	return setOf(sums)
}

// keep returns the rows with a property.
func keep(rows [][]int64, has func([]int64) bool) [][]int64 {
	var kept [][]int64
	for _, row := range rows {
		if has(row) {
			kept = append(kept, row)
		}
	}
	return kept
}

// expectSpace checks that a list is the reduced list of exactly the wanted rows.
func expectSpace(t *testing.T, name string, p int64, n int64, list [][]int64, want rowSet) {
	t.Helper()
	if !isReducedList(p, n, list) {
		t.Errorf("%s = %v is no reduced list", name, list)
		return
	}
	got := sumsOf(p, n, list)
	if len(got) != len(want) {
		t.Errorf("%s = %v makes %d vectors, want %d", name, list, len(got), len(want))
	}
	for row := range got {
		if !want[row] {
			t.Errorf("%s = %v makes %s", name, list, row)
			return
		}
	}
}

// plainRank returns the rank of rows modulo p.
func plainRank(p int64, rows [][]int64) int {
	var left [][]int64
	for _, row := range rows {
		left = append(left, slices.Clone(row))
	}
	rank := 0
	for len(left) > 0 {
		row := left[0]
		left = left[1:]
		lead := leadPlace(row)
		if lead == len(row) {
			continue
		}
		rank++
		for _, other := range left {
			for other[lead] != 0 {
				for i := range other {
					other[i] = (other[i] + row[i]) % p
				}
			}
		}
	}
	return rank
}

// expectSameSpace checks that a list is the reduced list of the space that rows make.
func expectSameSpace(t *testing.T, name string, p int64, n int64, list [][]int64, rows [][]int64) {
	t.Helper()
	if !isReducedList(p, n, list) {
		t.Errorf("%s = %v is no reduced list", name, list)
	}
	both := plainRank(p, slices.Concat(list, rows))
	if len(list) != both || plainRank(p, rows) != both {
		t.Errorf("%s = %v is not the space of %v", name, list, rows)
	}
}

// tableOf returns the table of the numbers that a function tells of each label of a row together with
// each label of a column.
func tableOf[L any](rows []L, columns []L, number func(from L, to L) int64) [][]int64 {
	table := [][]int64{}
	for _, from := range rows {
		row := []int64{}
		for _, to := range columns {
			row = append(row, number(from, to))
		}
		table = append(table, row)
	}
	return table
}

// known is a complex of which the ranks of the differentials and the homology numbers are known.
type known struct {
	impl.Complex
	Ranks []int64
	Holes []int64
}

// knownComplex makes a complex of pieces with one or two basis vectors, and then changes its bases.
func knownComplex(g *numbers, p int64, top int64) known {
	return knownWith(g, p, top, 3, 4)
}

// knownWith makes a known complex with homology numbers and ranks less than the bounds.
func knownWith(g *numbers, p int64, top int64, holes int64, ranks int64) known {
	k := randomParts(g, top, holes, ranks)
	k.build(p)
	for range 60 {
		k.changeBasis(g)
	}
	return k
}

// randomParts returns the ranks and homology numbers of a complex, each of them less than a bound.
func randomParts(g *numbers, top int64, holes int64, ranks int64) known {
	k := known{Ranks: make([]int64, top+2), Holes: make([]int64, top+1)}
	for n := range k.Holes {
		k.Holes[n] = g.below(holes)
		if n > 0 {
			k.Ranks[n] = g.below(ranks)
		}
	}
	return k
}

// build makes the complex of the told ranks and homology numbers. In each degree it has first the
// basis vectors that are differentials, then the holes, and behind them, in the reverse order, those
// that lead to the differentials of the degree below.
func (k *known) build(p int64) {
	top := len(k.Holes) - 1
	k.Prime, k.Dims, k.Maps = p, make([]int64, top+1), make([][][]int64, top)
	for n := range k.Dims {
		k.Dims[n] = k.Ranks[n+1] + k.Holes[n] + k.Ranks[n]
	}
	for n := range k.Maps {
		k.Maps[n] = zeros(k.Dims[n+1], k.Dims[n])
		for i := range k.Ranks[n+1] {
			k.Maps[n][k.Dims[n+1]-1-i][i] = 1
		}
	}
}

// changeBasis adds a multiple of one basis vector to another one of the same degree.
func (k known) changeBasis(g *numbers) {
	n := g.below(int64(len(k.Dims)))
	if k.Dims[n] < 2 {
		return
	}
	i := g.below(k.Dims[n])
	j := (i + 1 + g.below(k.Dims[n]-1)) % k.Dims[n]
	addToBasis(k.Complex, n, i, j, g.below(k.Prime))
}

// addToBasis adds a multiple of the basis vector j of the degree n to the basis vector i.
func addToBasis(x impl.Complex, n int64, i int64, j int64, factor int64) {
	if n > 0 {
		for c := range x.Maps[n-1][i] {
			x.Maps[n-1][i][c] = (x.Maps[n-1][i][c] + factor*x.Maps[n-1][j][c]) % x.Prime
		}
	}
	if int(n) < len(x.Maps) {
		for _, row := range x.Maps[n] {
			row[j] = (row[j] + (x.Prime-factor)*row[i]) % x.Prime
		}
	}
}

// knownComplexes lists complexes of all primes and tops.
func knownComplexes(each int) []known {
	g := &numbers{state: 7}
	var list []known
	for _, p := range []int64{2, 3, 5, 7} {
		for top := int64(0); top <= impl.MaxTop; top++ {
			for range each {
				list = append(list, knownComplex(g, p, top))
			}
		}
	}
	return list
}

// smallComplexes lists all complexes modulo p of the given dimensions.
func smallComplexes(p int64, dims ...int64) (complexes []impl.Complex, others []impl.Complex) {
	count := int64(0)
	for n := 1; n < len(dims); n++ {
		count += dims[n] * dims[n-1]
	}
	for _, row := range allRows(p, count) {
		x := impl.Complex{Prime: p, Dims: slices.Clone(dims)}
		for n := 1; n < len(dims); n++ {
			table := make([][]int64, dims[n])
			for i := range table {
				table[i], row = row[:dims[n-1]], row[dims[n-1]:]
			}
			x.Maps = append(x.Maps, table)
		}
		if plainIsComplex(x) {
			complexes = append(complexes, x)
		} else {
			others = append(others, x)
		}
	}
	return complexes, others
}
