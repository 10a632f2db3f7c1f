package tests

import (
	"fmt"
	"slices"

	"loop.example/g01273/impl"
)

// The functions of this file make couples of which the pages are known, and find derived couples and
// couples of chain maps in the plainest way, by one elimination alone.

// cleared eliminates at the first places of rows. The rows of the first list have 1 at one of these
// places, at which all others have 0, in the order of these places; those of the second one have 0 at
// all of them.
func cleared(p int64, rows [][]int64, places int64) (led [][]int64, rest [][]int64) {
	for _, row := range rows {
		rest = append(rest, slices.Clone(row))
	}
	for place := range places {
		at := slices.IndexFunc(rest, func(row []int64) bool { return row[place] != 0 })
		if at < 0 {
			continue
		}
		pivot := rest[at]
		for pivot[place] != 1 {
			pivot = sumOfRows(p, pivot, 1, rest[at])
		}
		rest = slices.Delete(rest, at, at+1)
		for _, list := range [][][]int64{led, rest} {
			for i, row := range list {
				list[i] = sumOfRows(p, row, p-row[place], pivot)
			}
		}
		led = append(led, pivot)
	}
	return led, rest
}

// withUnits returns rows with the basis vectors behind them.
func withUnits(rows [][]int64) [][]int64 {
	var longer [][]int64
	for i, unit := range basisOf(int64(len(rows))) {
		longer = append(longer, slices.Concat(rows[i], unit))
	}
	return longer
}

// plainReduced returns the reduced list of the space that rows of n numbers make.
func plainReduced(p int64, n int64, rows [][]int64) [][]int64 {
	led, _ := cleared(p, rows, n)
	return led
}

// plainKernel returns the reduced list of the vectors of which a table makes 0.
func plainKernel(p int64, table [][]int64, columns int64) [][]int64 {
	_, rest := cleared(p, withUnits(table), columns)
	var kernel [][]int64
	for _, row := range rest {
		kernel = append(kernel, row[columns:])
	}
	return plainReduced(p, int64(len(table)), kernel)
}

// plainNumbers returns numbers whose sum of multiples of rows of n numbers is v, and whether there are
// such numbers.
func plainNumbers(p int64, n int64, rows [][]int64, v []int64) ([]int64, bool) {
	led, _ := cleared(p, withUnits(rows), n)
	rest := slices.Concat(v, make([]int64, len(rows)))
	for _, row := range led {
		rest = sumOfRows(p, rest, p-rest[leadPlace(row)], row)
	}
	return sumOfRows(p, make([]int64, len(rows)), p-1, rest[n:]), isZeroRow(rest[:n])
}

// plainClasses returns the reduced list of the vectors of which a table makes 0, and that have 0 at the
// places of the first numbers of the rows of a reduced list.
func plainClasses(p int64, table [][]int64, columns int64, bottom [][]int64) [][]int64 {
	var conditions [][]int64
	for i, row := range table {
		longer := slices.Clone(row)
		for _, b := range bottom {
			longer = append(longer, 0)
			if leadPlace(b) == i {
				longer[len(longer)-1] = 1
			}
		}
		conditions = append(conditions, longer)
	}
	return plainKernel(p, conditions, columns+int64(len(bottom)))
}

// plainClass returns the numbers of the class of a vector of n numbers.
func plainClass(p int64, n int64, classes [][]int64, bottom [][]int64, v []int64) []int64 {
	factors, ok := plainNumbers(p, n, slices.Concat(classes, bottom), v)
	if !ok {
		panic(fmt.Sprint(v, " has no class"))
	}
	return factors[:len(classes)]
}

// plainCoupleDifferential returns the table of the differential of a couple.
func plainCoupleDifferential(c impl.Couple) [][]int64 {
	return rowsBy(c.E, func(v []int64) []int64 {
		return timesTable(c.Prime, timesTable(c.Prime, v, c.K, c.D), c.J, c.E)
	})
}

// basesOf returns the basis of D and that of E of the derived couple of an exact one, and the reduced
// list of the differentials.
func basesOf(c impl.Couple) (images [][]int64, classes [][]int64, bottom [][]int64) {
	table := plainCoupleDifferential(c)
	bottom = plainReduced(c.Prime, c.E, table)
	return plainReduced(c.Prime, c.D, c.I), plainClasses(c.Prime, table, c.E, bottom), bottom
}

// plainDerived returns the derived couple of an exact one.
func plainDerived(c impl.Couple) impl.Couple {
	p := c.Prime
	images, classes, bottom := basesOf(c)
	out := impl.Couple{Prime: p, D: int64(len(images)), E: int64(len(classes))}
	for _, v := range images {
		out.I = append(out.I, plainClass(p, c.D, images, nil, timesTable(p, v, c.I, c.D)))
		x, _ := plainNumbers(p, c.D, c.I, v)
		out.J = append(out.J, plainClass(p, c.E, classes, bottom, timesTable(p, x, c.J, c.E)))
	}
	for _, v := range classes {
		out.K = append(out.K, plainClass(p, c.D, images, nil, timesTable(p, v, c.K, c.D)))
	}
	return out
}

// threeTables lists the tables of a couple, each with the number of its columns.
func threeTables(c impl.Couple) ([3][][]int64, [3]int64) {
	return [3][][]int64{c.I, c.J, c.K}, [3]int64{c.D, c.E, c.D}
}

// exactPlaces reports for each map of a couple whether what it makes is that of which the next one
// makes 0, in the order I, J, K.
func exactPlaces(c impl.Couple) [3]bool {
	list, columns := threeTables(c)
	var exact [3]bool
	for k := range list {
		next := (k + 1) % 3
		made := plainReduced(c.Prime, columns[k], list[k])
		exact[k] = fmt.Sprint(made) == fmt.Sprint(plainKernel(c.Prime, list[next], columns[next]))
	}
	return exact
}

// powerRanks returns the ranks of the powers of I from the one with the exponent 0 on.
func powerRanks(c impl.Couple, count int) []int64 {
	power := basisOf(c.D)
	var ranks []int64
	for range count {
		ranks = append(ranks, int64(plainRank(c.Prime, power)))
		power = rowsBy(c.D, func(v []int64) []int64 {
			return timesTable(c.Prime, timesTable(c.Prime, v, power, c.D), c.I, c.D)
		})
	}
	return ranks
}

// knownCouple is an exact couple of which the pages are known. I has an inverse on Whole vectors, and
// on each block of others it leads each vector to the one before, and the first one to 0.
type knownCouple struct {
	impl.Couple
	Blocks []int64
	Whole  int64
}

// coupleOfBlocks makes an exact couple of blocks and of whole vectors. For each block, E has one vector
// that J makes of the last vector of it, and one of which K makes the first one.
func coupleOfBlocks(g *numbers, p int64, whole int64, blocks ...int64) knownCouple {
	k := knownCouple{Blocks: blocks, Whole: whole}
	k.Prime, k.D, k.E = p, whole, int64(2*len(blocks))
	for _, size := range blocks {
		k.D += size
	}
	k.I, k.J, k.K = zeros(k.D, k.D), zeros(k.D, k.E), zeros(k.E, k.D)
	for i, row := range g.square(p, whole) {
		copy(k.I[i], row)
	}
	first := whole
	for at, size := range blocks {
		for i := first + 1; i < first+size; i++ {
			k.I[i][i-1] = 1 + g.below(p-1)
		}
		k.J[first+size-1][2*at] = 1 + g.below(p-1)
		k.K[2*at+1][first] = 1 + g.below(p-1)
		first += size
	}
	return k
}

// addRow adds a multiple of the row j of a table to the row i.
func addRow(p int64, table [][]int64, i int64, j int64, factor int64) {
	copy(table[i], sumOfRows(p, table[i], factor, table[j]))
}

// takeColumn takes a multiple of the column i of a table from the column j.
func takeColumn(p int64, table [][]int64, i int64, j int64, factor int64) {
	for _, row := range table {
		row[j] = (row[j] + (p-factor)*row[i]) % p
	}
}

// mixD adds a multiple of one basis vector of D to another one.
func mixD(g *numbers, c impl.Couple) {
	if c.D < 2 {
		return
	}
	i, j := g.twoPlaces(c.D)
	factor := g.below(c.Prime)
	addRow(c.Prime, c.I, i, j, factor)
	takeColumn(c.Prime, c.I, i, j, factor)
	addRow(c.Prime, c.J, i, j, factor)
	takeColumn(c.Prime, c.K, i, j, factor)
}

// mixE adds a multiple of one basis vector of E to another one.
func mixE(g *numbers, c impl.Couple) {
	if c.E < 2 {
		return
	}
	i, j := g.twoPlaces(c.E)
	factor := g.below(c.Prime)
	addRow(c.Prime, c.K, i, j, factor)
	takeColumn(c.Prime, c.J, i, j, factor)
}

// mixed makes an exact couple of blocks and of whole vectors, and changes its bases.
func mixed(g *numbers, p int64, whole int64, blocks ...int64) knownCouple {
	k := coupleOfBlocks(g, p, whole, blocks...)
	for range 12 * (k.D + k.E) {
		mixD(g, k.Couple)
		mixE(g, k.Couple)
	}
	return k
}

// name prints a known couple by its parts.
func (k knownCouple) name() string {
	return fmt.Sprintf("modulo %d of the blocks %v and %d whole vectors", k.Prime, k.Blocks, k.Whole)
}

// sizesOfPage returns D and E of the page r, and the rank of the differential there. A block loses its
// last vector from page to page, and its two vectors of E when nothing of it is left.
func (k knownCouple) sizesOfPage(r int64) (d int64, e int64, rank int64) {
	d = k.Whole
	for _, size := range k.Blocks {
		if size >= r {
			d += size - r + 1
			e += 2
		}
		if size == r {
			rank++
		}
	}
	return d, e, rank
}

// stablePage returns the first page of a known couple on which I has an inverse.
func (k knownCouple) stablePage() int64 {
	return slices.Max(append([]int64{0}, k.Blocks...)) + 1
}

// equalBlocks lists blocks of the same size.
func equalBlocks(count int, size int64) []int64 {
	return slices.Repeat([]int64{size}, count)
}

// randomBlocks lists at most 12 blocks of random sizes that take together at most the given number.
func randomBlocks(g *numbers, most int64) []int64 {
	var blocks []int64
	for most > 0 && len(blocks) < impl.MaxCouple/2 && g.below(6) > 0 {
		size := 1 + g.below(min(most, 6))
		blocks = append(blocks, size)
		most -= size
	}
	return blocks
}

// smallerCouples lists couples of all primes with blocks of all kinds and few vectors.
func smallerCouples(each int) []knownCouple {
	g := &numbers{state: 51}
	var list []knownCouple
	for _, p := range []int64{2, 3, 5, 7} {
		list = append(list, mixed(g, p, 0), mixed(g, p, 1), mixed(g, p, 4), mixed(g, p, 0, 1), mixed(g, p, 1, 1), mixed(g, p, 0, 2),
			mixed(g, p, 0, 1, 1, 1), mixed(g, p, 0, 2, 1), mixed(g, p, 2, 3, 1), mixed(g, p, 0, 4, 2, 2), mixed(g, p, 1, 5))
		for range each {
			list = append(list, mixed(g, p, g.below(4), randomBlocks(g, 8)...))
		}
	}
	return list
}

// greatCouples lists couples modulo p with dimensions up to MaxCouple.
func greatCouples(p int64) []knownCouple {
	g := &numbers{state: uint64(52 + p)}
	return []knownCouple{
		mixed(g, p, 24), mixed(g, p, 0, 24), mixed(g, p, 0, 12, 12), mixed(g, p, 0, equalBlocks(12, 2)...), mixed(g, p, 12, equalBlocks(12, 1)...),
		mixed(g, p, 0, 13, 11), mixed(g, p, 3, 6, 5, 4, 3, 2, 1), mixed(g, p, 1, 14, 1, 1, 1, 1, 1, 1, 1, 1, 1), mixed(g, p, g.below(5), randomBlocks(g, 19)...),
	}
}

// smallCouples lists all couples modulo p with the given dimensions.
func smallCouples(p int64, d int64, e int64) []impl.Couple {
	var list []impl.Couple
	for _, filling := range allRows(p, d*d+2*d*e) {
		c := impl.Couple{Prime: p, D: d, E: e, I: zeros(d, d), J: zeros(d, e), K: zeros(e, d)}
		for _, table := range [][][]int64{c.I, c.J, c.K} {
			for _, row := range table {
				filling = filling[copy(row, filling):]
			}
		}
		list = append(list, c)
	}
	return list
}

// plainHomologyList returns the homology list of the degree n, also of what exceeds limits, and the
// reduced list of the boundaries.
func plainHomologyList(x impl.Complex, n int64) (classes [][]int64, bottom [][]int64) {
	if int(n) < len(x.Maps) {
		bottom = plainReduced(x.Prime, x.Dims[n], x.Maps[n])
	}
	table := rowsBy(x.Dims[n], func(v []int64) []int64 { return plainBoundary(x, n, v) })
	return plainClasses(x.Prime, table, dimIn(x, n-1), bottom), bottom
}

// classPlaces returns for each degree of x the place of its first class among those of all degrees,
// and behind these places the number of all classes.
func classPlaces(x impl.Complex) []int64 {
	places := []int64{0}
	for n := range x.Dims {
		classes, _ := plainHomologyList(x, int64(n))
		places = append(places, places[n]+int64(len(classes)))
	}
	return places
}

// classIn returns the numbers of the class of a cycle of the degree n among the classes of all degrees.
func classIn(x impl.Complex, n int64, v []int64) []int64 {
	places := classPlaces(x)
	row := make([]int64, places[len(places)-1])
	if n >= 0 && int(n) < len(x.Dims) {
		classes, bottom := plainHomologyList(x, n)
		copy(row[places[n]:], plainClass(x.Prime, x.Dims[n], classes, bottom, v))
	}
	return row
}

// plainCouple returns the couple of a chain map from x to itself, also if it exceeds limits.
func plainCouple(x impl.Complex, f tables) impl.Couple {
	c, cone := impl.Couple{Prime: x.Prime}, plainCone(x, x, f)
	for n := range int64(len(x.Dims)) {
		classes, _ := plainHomologyList(x, n)
		for _, v := range classes {
			c.I = append(c.I, classIn(x, n, plainImage(x, f, 0, n, v)))
			c.J = append(c.J, classIn(cone, n, slices.Concat(v, make([]int64, dimIn(x, n-1)))))
		}
	}
	for n := range int64(len(cone.Dims)) {
		classes, _ := plainHomologyList(cone, n)
		for _, v := range classes {
			c.K = append(c.K, classIn(x, n-1, v[dimIn(x, n):]))
		}
	}
	c.D, c.E = int64(len(c.I)), int64(len(c.K))
	return c
}

// selfMap makes a chain map from a complex to itself: tables lead holes to holes, and anything that
// leads homology to 0 is added; the bases are changed then.
func selfMap(g *numbers, p int64, x known, onHoles func(n int) [][]int64) knownMap {
	x.build(p)
	m := knownMap{X: x, Y: x, F: plainNull(x.Complex, x.Complex, randomFamily(g, x.Complex, x.Complex, 1))}
	for n := range x.Dims {
		table := onHoles(n)
		for i, row := range table {
			image := m.F[n][x.Ranks[n+1]+int64(i)][x.Ranks[n+1]:]
			copy(image, sumOfRows(p, image[:len(row)], 1, row))
		}
		m.Ranks = append(m.Ranks, int64(plainRank(p, table)))
	}
	for range 60 {
		m.mixBoth(g)
	}
	return m
}

// mixBoth adds a multiple of one basis vector to another one, in the complex that a map leads from and
// to.
func (m knownMap) mixBoth(g *numbers) {
	p, n := m.X.Prime, g.below(int64(len(m.X.Dims)))
	if m.X.Dims[n] < 2 {
		return
	}
	i, j := g.twoPlaces(m.X.Dims[n])
	factor := g.below(p)
	addToBasis(m.X.Complex, n, i, j, factor)
	addRow(p, m.F[n], i, j, factor)
	takeColumn(p, m.F[n], i, j, factor)
}

// strictlyLower returns a table of n rows of n numbers with 0 but at the places left of the diagonal,
// so that it leads to 0 if it is repeated.
func (g *numbers) strictlyLower(p int64, n int64) [][]int64 {
	table := g.table(p, n, n)
	for i, row := range table {
		for j := i; j < len(row); j++ {
			row[j] = 0
		}
	}
	return table
}

// selfMaps lists chain maps from complexes of all primes and tops to themselves: any ones, such as have
// an inverse on homology, and such as lead it to 0 if they are repeated.
func selfMaps(each int) []knownMap {
	g := &numbers{state: 53}
	var list []knownMap
	for _, p := range []int64{2, 3, 5, 7} {
		for top := int64(0); top <= impl.MaxTop; top++ {
			for range each {
				for _, onHoles := range []func(int64, int64) [][]int64{
					func(p int64, n int64) [][]int64 { return g.table(p, n, n) }, g.square, g.strictlyLower,
				} {
					x := randomParts(g, top, 4, 3)
					list = append(list, selfMap(g, p, x, func(n int) [][]int64 { return onHoles(p, x.Holes[n]) }))
				}
			}
		}
	}
	return list
}
