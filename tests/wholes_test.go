package tests

import (
	"fmt"
	"slices"

	"loop.example/g01273/impl"
)

// The functions of this file find determinants, Smith numbers and homology of whole numbers in the
// plainest way, and make matrices and whole complexes of known free parts and torsion.

// absolute returns a number without its sign.
func absolute(number int64) int64 { return max(number, -number) }

// plainDivisor returns the greatest common divisor of two numbers by subtractions of multiples.
func plainDivisor(a int64, b int64) int64 {
	a, b = absolute(a), absolute(b)
	for b != 0 {
		a, b = b, a%b
	}
	return a
}

// plainChoices lists the choices of k of the numbers from..n - 1.
func plainChoices(from int, n int, k int) [][]int {
	if k == 0 {
		return [][]int{nil}
	}
	var list [][]int
	for first := from; first < n; first++ {
		for _, others := range plainChoices(first+1, n, k-1) {
			list = append(list, append([]int{first}, others...))
		}
	}
	return list
}

// plainDeterminant returns the determinant of the numbers in chosen rows and columns, expanded along the
// first one of the rows.
func plainDeterminant(table [][]int64, rows []int, columns []int) int64 {
	if len(rows) == 0 {
		return 1
	}
	sum, sign := int64(0), int64(1)
	for at, column := range columns {
		if number := table[rows[0]][column]; number != 0 {
			others := slices.Delete(slices.Clone(columns), at, at+1)
			sum += sign * number * plainDeterminant(table, rows[1:], others)
		}
		sign = -sign
	}
	return sum
}

// upTo lists the numbers 0..n - 1.
func upTo(n int) []int {
	list := make([]int, n)
	for i := range list {
		list[i] = i
	}
	return list
}

// widthOf returns the number of the columns of a table.
func widthOf(table [][]int64) int {
	if len(table) == 0 {
		return 0
	}
	return len(table[0])
}

// smithByDeterminants returns the Smith numbers as the chapter tells them, by all determinants.
func smithByDeterminants(table [][]int64) []int64 {
	smith, before := []int64{}, int64(1)
	for k := 1; k <= min(len(table), widthOf(table)); k++ {
		divisor := int64(0)
		for _, rows := range plainChoices(0, len(table), k) {
			for _, columns := range plainChoices(0, widthOf(table), k) {
				divisor = plainDivisor(divisor, plainDeterminant(table, rows, columns))
			}
		}
		if divisor == 0 {
			break
		}
		smith = append(smith, divisor/before)
		before = divisor
	}
	return smith
}

// leastNumber returns the place of a number other than 0 with the least absolute value.
func leastNumber(table [][]int64) (row int, column int, ok bool) {
	for i := range table {
		for j, number := range table[i] {
			if number != 0 && (!ok || absolute(number) < absolute(table[row][column])) {
				row, column, ok = i, j, true
			}
		}
	}
	return row, column, ok
}

// reducedBy takes multiples of a row and of a column of a table from all others, so that what is left in
// that column and row is less than their common number, and reports whether nothing is left.
func reducedBy(table [][]int64, row int, column int) bool {
	done := true
	for i := range table {
		if factor := table[i][column] / table[row][column]; i != row {
			for j := range table[i] {
				table[i][j] -= factor * table[row][j]
			}
			done = done && table[i][column] == 0
		}
	}
	for j := range table[row] {
		if factor := table[row][j] / table[row][column]; j != column {
			for i := range table {
				table[i][j] -= factor * table[i][column]
			}
			done = done && table[row][j] == 0
		}
	}
	return done
}

// withoutDivisor returns a row with a number that another number does not divide.
func withoutDivisor(table [][]int64, divisor int64) ([]int64, bool) {
	for _, row := range table {
		for _, number := range row {
			if number%divisor != 0 {
				return row, true
			}
		}
	}
	return nil, false
}

// smithByElimination returns the Smith numbers by changes of rows and columns alone.
func smithByElimination(table [][]int64) []int64 {
	table = cloned(table)
	smith := []int64{}
	for {
		row, column, ok := leastNumber(table)
		if !ok {
			return smith
		}
		if !reducedBy(table, row, column) {
			continue
		}
		if other, has := withoutDivisor(table, table[row][column]); has {
			for j := range other {
				table[row][j] += other[j]
			}
			continue
		}
		smith = append(smith, absolute(table[row][column]))
		table = slices.Delete(table, row, row+1)
		for i := range table {
			table[i] = slices.Delete(table[i], column, column+1)
		}
	}
}

// cloned returns a copy of a table.
func cloned(table [][]int64) [][]int64 {
	out := make([][]int64, len(table))
	for i, row := range table {
		out[i] = slices.Clone(row)
	}
	return out
}

// turned returns a table of as many columns as told with columns and rows exchanged.
func turned(table [][]int64, columns int64) [][]int64 {
	out := zeros(columns, int64(len(table)))
	for i, row := range table {
		for j, number := range row {
			out[j][i] = number
		}
	}
	return out
}

// invariantsOf returns the orders, each dividing the next one and greater than 1, of the cyclic groups
// whose sum is that of cyclic groups of any orders.
func invariantsOf(orders []int64) []int64 {
	list := slices.Clone(orders)
	for i := range list {
		for j := i + 1; j < len(list); j++ {
			divisor := plainDivisor(list[i], list[j])
			list[i], list[j] = divisor, list[i]/divisor*list[j]
		}
	}
	return slices.DeleteFunc(list, func(order int64) bool { return order == 1 })
}

// wholeNumber returns a number in -bound..bound.
func (g *numbers) wholeNumber(bound int64) int64 { return g.below(2*bound+1) - bound }

// matrix returns a table of numbers in -bound..bound.
func (g *numbers) matrix(rows int64, columns int64, bound int64) [][]int64 {
	table := zeros(rows, columns)
	for _, row := range table {
		for j := range row {
			row[j] = g.wholeNumber(bound)
		}
	}
	return table
}

// chain is a part of a whole complex: as many vectors of the degree n + 1 as of n, each one of which leads
// to its number times one of these, and to the one behind it once. Its homology is a cyclic group of the
// product of the numbers, at n.
type chain struct {
	n     int64
	links []int64
}

// order returns the product of the numbers of a chain.
func (c chain) order() int64 {
	order := int64(1)
	for _, link := range c.links {
		order *= link
	}
	return order
}

// knownWhole is a whole complex of which the free parts and the torsion are known.
type knownWhole struct {
	impl.Whole
	Free   []int64
	Orders [][]int64
}

// name tells the complex.
func (k knownWhole) name() string { return fmt.Sprintf("%v", k.Whole) }

// wholeOf makes a whole complex of free vectors, as many as told for each degree, and of chains.
func wholeOf(free []int64, chains ...chain) knownWhole {
	k := knownWhole{Free: free, Orders: make([][]int64, len(free))}
	k.Dims = slices.Clone(free)
	type link struct{ n, from, to, number int64 }
	var links []link
	for _, c := range chains {
		from, to := k.Dims[c.n+1], k.Dims[c.n]
		for i, number := range c.links {
			links = append(links, link{c.n, from + int64(i), to + int64(i), number})
			if i > 0 {
				links = append(links, link{c.n, from + int64(i) - 1, to + int64(i), 1})
			}
		}
		k.Dims[c.n] += int64(len(c.links))
		k.Dims[c.n+1] += int64(len(c.links))
		k.Orders[c.n] = append(k.Orders[c.n], c.order())
	}
	for n := 1; n < len(free); n++ {
		k.Maps = append(k.Maps, zeros(k.Dims[n], k.Dims[n-1]))
	}
	for _, l := range links {
		k.Maps[l.n][l.from][l.to] = l.number
	}
	return k
}

// fits reports whether the dimensions and the numbers keep to the limits.
func (k knownWhole) fits() bool {
	if slices.Max(k.Dims) > impl.MaxWide {
		return false
	}
	for _, table := range k.Maps {
		for _, row := range table {
			for _, number := range row {
				if absolute(number) > impl.MaxWhole {
					return false
				}
			}
		}
	}
	return true
}

// addTo adds a multiple of the basis vector j of the degree n to the basis vector i.
func (k knownWhole) addTo(n int64, i int64, j int64, factor int64) {
	if n > 0 {
		for c := range k.Maps[n-1][i] {
			k.Maps[n-1][i][c] += factor * k.Maps[n-1][j][c]
		}
	}
	if int(n) < len(k.Maps) {
		for _, row := range k.Maps[n] {
			row[j] -= factor * row[i]
		}
	}
}

// mix changes the bases step by step, and takes back the steps that lead beyond the limits.
func (k knownWhole) mix(g *numbers, steps int) {
	for range steps {
		n := g.below(int64(len(k.Dims)))
		if k.Dims[n] < 2 {
			continue
		}
		i, j := g.twoPlaces(k.Dims[n])
		factor := 2*g.below(2) - 1
		k.addTo(n, i, j, factor)
		if !k.fits() {
			k.addTo(n, i, j, -factor)
		}
	}
}

// parts returns the Parts at n, none below the degrees.
func (k knownWhole) parts(n int) []int64 {
	if n < 0 {
		return nil
	}
	return invariantsOf(k.Orders[n])
}

// homology returns the free parts and the torsion.
func (k knownWhole) homology() []impl.Torsion {
	var list []impl.Torsion
	for n, free := range k.Free {
		list = append(list, impl.Torsion{Free: free, Parts: k.parts(n)})
	}
	return list
}

// bockstein returns the Bockstein numbers of the power r of p. An order counts by itself: its power of p
// is not spread by the change to Parts.
func (k knownWhole) bockstein(p int64, r int64) []int64 {
	var list []int64
	for n, free := range k.Free {
		number := free + dividedBy(k.Orders[n], p, r)
		if n > 0 {
			number += dividedBy(k.Orders[n-1], p, r)
		}
		list = append(list, number)
	}
	return list
}

// dividedBy counts the numbers that can be divided by p, r times.
func dividedBy(list []int64, p int64, r int64) int64 {
	count := int64(0)
	for _, number := range list {
		times := int64(0)
		for number%p == 0 {
			number /= p
			times++
		}
		if times >= r {
			count++
		}
	}
	return count
}

// lastBockstein returns the least page that has the free parts alone.
func (k knownWhole) lastBockstein(p int64) int64 {
	r := int64(1)
	for fmt.Sprint(k.bockstein(p, r)) != fmt.Sprint(k.Free) {
		r++
	}
	return r
}

// anyWhole makes a whole complex of free vectors and chains that fit, with other bases.
func anyWhole(g *numbers, top int64, chains int, links int64, number func() int64) knownWhole {
	free := make([]int64, top+1)
	for n := range free {
		free[n] = g.below(3)
	}
	var list []chain
	for range chains {
		if top == 0 {
			break
		}
		c := chain{n: g.below(top)}
		for range 1 + g.below(links) {
			c.links = append(c.links, number())
		}
		if wholeOf(free, append(slices.Clone(list), c)...).fits() {
			list = append(list, c)
		}
	}
	k := wholeOf(free, list...)
	k.mix(g, 80)
	return k
}

// knownWholes lists whole complexes of all tops: with numbers of all sizes, with powers of one prime
// alone, and with numbers that have many divisors.
func knownWholes(each int) []knownWhole {
	g := &numbers{state: 90}
	var list []knownWhole
	for top := int64(0); top <= impl.MaxTop; top++ {
		for range each {
			list = append(list,
				anyWhole(g, top, 6, 2, func() int64 { return 1 + g.below(impl.MaxWhole) }),
				anyWhole(g, top, 6, 1, func() int64 { return 1 + g.below(impl.MaxWhole) }),
				anyWhole(g, top, 6, 4, func() int64 { return []int64{2, 4, 8}[g.below(3)] }),
				anyWhole(g, top, 8, 3, func() int64 { return []int64{1, 3, 9}[g.below(3)] }),
				anyWhole(g, top, 8, 3, func() int64 { return []int64{2, 3, 6, 5, 7}[g.below(5)] }))
		}
	}
	return list
}

// signs6 is a table of 6 rows of 1 and -1 with the greatest determinant of such tables, 160.
func signs6() [][]int64 {
	return [][]int64{{1, 1, 1, -1, 1, 1}, {1, 1, 1, 1, -1, 1}, {1, 1, 1, 1, 1, -1}, {1, -1, -1, 1, 1, 1}, {-1, 1, -1, 1, 1, 1}, {-1, -1, 1, 1, 1, 1}}
}

// greatestMatrix returns a matrix of n rows and columns, n in 1..6, with the greatest determinant. It is
// reached with numbers of 9 and -9 alone, since a determinant grows with each number in one direction.
func greatestMatrix(n int64) [][]int64 {
	table := signs6()
	switch n {
	case 1:
		table = [][]int64{{1}}
	case 2:
		table = [][]int64{{1, 1}, {-1, 1}}
	case 3, 5:
		table = allSigns(n, -1)
	case 4:
		table = allSigns(n, -1)
		table[0], table[1] = table[1], table[0]
	}
	return timesNumber(table, impl.MaxWhole)
}

// allSigns returns a table of n rows and columns with 1, but another number in the places i, i.
func allSigns(n int64, other int64) [][]int64 {
	table := zeros(n, n)
	for i, row := range table {
		for j := range row {
			row[j] = 1
		}
		row[i] = other
	}
	return table
}

// timesNumber returns the numbers of a table times a factor.
func timesNumber(table [][]int64, factor int64) [][]int64 {
	table = cloned(table)
	for _, row := range table {
		for j := range row {
			row[j] *= factor
		}
	}
	return table
}

// twoTerms returns the whole complex of the degrees 0 and 1 with one matrix.
func twoTerms(table [][]int64, columns int64) impl.Whole {
	return impl.Whole{Dims: []int64{columns, int64(len(table))}, Maps: tables{table}}
}

// greatTorsion tells a matrix of which one Smith number is great and all others are 1.
type greatTorsion struct {
	rows  [][]int64
	order int64
}

// greatTorsions lists such matrices: of 5^10, of 7^9, and of nearly the greatest determinant.
func greatTorsions() []greatTorsion {
	near := timesNumber(signs6(), impl.MaxWhole)
	for i := range 5 {
		near[i][i] = 8
	}
	return []greatTorsion{
		{[][]int64{{4, 5, 4, -7, 5, 4}, {9, 5, 7, 9, -8, 9}, {7, 8, 5, 9, 9, -8}, {7, -5, -8, 9, 4, 7}, {-9, 8, -6, 9, 9, 7}, {-1, -6, 2, 4, 8, -2}}, 9765625},
		{[][]int64{{9, 7, 9, -8, 7, 7}, {7, 9, 9, 9, -9, 9}, {8, 8, 8, 9, 9, -9}, {8, -7, -7, 7, 8, 7}, {-7, 9, -8, 9, 7, 7}, {-8, -6, 9, 5, 9, 4}}, 40353607},
		{near, 80709525},
	}
}
