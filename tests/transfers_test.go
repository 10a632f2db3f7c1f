package tests

import (
	"fmt"
	"math"
	"slices"

	"loop.example/g01273/impl"
)

// The functions of this file find splittings, contractions, rounds and transferred complexes in the
// plainest way, and make contractions and perturbations of which the rounds are known.

// plainFree lists the free places of the degree n.
func plainFree(x impl.Complex, n int64) []int64 {
	table := rowsBy(dimIn(x, n), func(v []int64) []int64 { return plainBoundary(x, n, v) })
	cycles := plainKernel(x.Prime, table, dimIn(x, n-1))
	free := []int64{}
	for place := range dimIn(x, n) {
		if !slices.ContainsFunc(cycles, func(row []int64) bool { return int64(leadPlace(row)) == place }) {
			free = append(free, place)
		}
	}
	return free
}

// isAtPlaces reports whether a vector has numbers other than 0 at places of a list alone.
func isAtPlaces(v []int64, places []int64) bool {
	for place, number := range v {
		if number != 0 && !slices.Contains(places, int64(place)) {
			return false
		}
	}
	return true
}

// conditionCount is the number of the conditions of contractions.
const conditionCount = 7

// mapsOfContraction are the maps of a contraction, each one told by a degree and a vector.
type mapsOfContraction struct {
	x, small     impl.Complex
	d            func(int64, []int64) []int64
	down, up, by func(int64, []int64) []int64
}

// mapsBy returns the maps of tables of the right sizes, with Back as by.
func mapsBy(x impl.Complex, c impl.Contraction) mapsOfContraction {
	small := flatOf(x.Prime, holesByRanks(x)...)
	return mapsOfContraction{
		x: x, small: small,
		d:    func(n int64, v []int64) []int64 { return plainBoundary(x, n, v) },
		down: func(n int64, v []int64) []int64 { return plainImage(small, c.Down, 0, n, v) },
		up:   func(n int64, u []int64) []int64 { return plainImage(x, c.Up, 0, n, u) },
		by:   func(n int64, v []int64) []int64 { return plainImage(x, c.Back, 1, n, v) },
	}
}

// failingAt reports for a basis vector v of x of the degree n which conditions fail.
func (m mapsOfContraction) failingAt(n int64, v []int64) [conditionCount]bool {
	minus := m.x.Prime - 1
	rest := sumOfRows(m.x.Prime, v, minus, m.up(n, m.down(n, v)))
	rest = sumOfRows(m.x.Prime, rest, minus, m.d(n+1, m.by(n, v)))
	rest = sumOfRows(m.x.Prime, rest, minus, m.by(n-1, m.d(n, v)))
	return [conditionCount]bool{
		0: !isZeroRow(m.down(n-1, m.d(n, v))), 3: !isZeroRow(rest), 4: !isZeroRow(m.by(n+1, m.by(n, v))), 6: !isZeroRow(m.down(n+1, m.by(n, v))),
	}
}

// failingAbove reports for a basis vector u of the homology of the degree n which conditions fail.
func (m mapsOfContraction) failingAbove(n int64, u []int64) [conditionCount]bool {
	v := m.up(n, u)
	return [conditionCount]bool{1: !isZeroRow(m.d(n, v)), 2: !slices.Equal(m.down(n, v), u), 5: !isZeroRow(m.by(n, v))}
}

// failing lists the conditions, counted from 1 in the order of the chapter, that fail for tables of the
// right sizes: of d and Down, of Up and d, of Up and Down, that of the sum, of Back and Back, of Up and
// Back, and of Back and Down.
func failing(x impl.Complex, c impl.Contraction) []int {
	m := mapsBy(x, c)
	var fails [conditionCount]bool
	add := func(some [conditionCount]bool) {
		for k := range fails {
			fails[k] = fails[k] || some[k]
		}
	}
	for n, dim := range x.Dims {
		for _, v := range basisOf(dim) {
			add(m.failingAt(int64(n), v))
		}
		for _, u := range basisOf(m.small.Dims[n]) {
			add(m.failingAbove(int64(n), u))
		}
	}
	list := []int{}
	for k, fail := range fails {
		if fail {
			list = append(list, k+1)
		}
	}
	return list
}

// plainPerturbed returns x with the sums of Maps and of a list like them.
func plainPerturbed(x impl.Complex, maps tables) impl.Complex {
	sum := impl.Complex{Prime: x.Prime, Dims: slices.Clone(x.Dims)}
	for k, table := range x.Maps {
		var rows [][]int64
		for i, row := range table {
			rows = append(rows, sumOfRows(x.Prime, row, 1, maps[k][i]))
		}
		sum.Maps = append(sum.Maps, rows)
	}
	return sum
}

// turnTable returns the table of e of Back for the degree n.
func turnTable(x impl.Complex, c impl.Contraction, maps tables, n int64) [][]int64 {
	e := complexOf(x.Prime, x.Dims, maps...)
	return rowsBy(x.Dims[n], func(v []int64) []int64 { return plainBoundary(e, n+1, plainImage(x, c.Back, 1, n, v)) })
}

// plainRounds returns the rounds by the powers of the tables of e of Back, and whether there are such of
// at most MaxRounds.
func plainRounds(x impl.Complex, c impl.Contraction, maps tables) (int64, bool) {
	rounds := int64(0)
	for n, dim := range x.Dims {
		turn := turnTable(x, c, maps, int64(n))
		power, k := basisOf(dim), int64(0)
		for ; plainRank(x.Prime, power) > 0; k++ {
			if k == impl.MaxRounds {
				return 0, false
			}
			power = rowsBy(dim, func(v []int64) []int64 { return timesTable(x.Prime, timesTable(x.Prime, v, power, dim), turn, dim) })
		}
		rounds = max(rounds, k)
	}
	return rounds, true
}

// plainTransferred returns the transferred complex of a contraction and a perturbation with rounds: s is
// found as the vector that makes z together with e of Back of it.
func plainTransferred(x impl.Complex, c impl.Contraction, maps tables) impl.Complex {
	p, m, e := x.Prime, mapsBy(x, c), complexOf(x.Prime, x.Dims, maps...)
	out := impl.Complex{Prime: p, Dims: m.small.Dims}
	for n := int64(1); int(n) < len(x.Dims); n++ {
		rows := turnTable(x, c, maps, n-1)
		for i, unit := range basisOf(x.Dims[n-1]) {
			rows[i] = sumOfRows(p, rows[i], 1, unit)
		}
		out.Maps = append(out.Maps, rowsBy(m.small.Dims[n], func(u []int64) []int64 {
			s, ok := plainNumbers(p, x.Dims[n-1], rows, plainDifferential(e, n, m.up(n, u)))
			if !ok {
				panic(fmt.Sprint("no sum for ", x, c, maps))
			}
			return m.down(n-1, s)
		}))
	}
	return out
}

// contractedTo is a complex with a contraction and a list like its Maps.
type contractedTo struct {
	X impl.Complex
	C impl.Contraction
	E tables
}

// name prints a complex with its contraction.
func (k contractedTo) name() string { return fmt.Sprintf("%v with %v and %v", k.X, k.C, k.E) }

// zeroMapsOf returns the list like Maps with zeros alone.
func zeroMapsOf(x impl.Complex) tables {
	return flatOf(x.Prime, x.Dims...).Maps
}

// contractedOf makes a complex of known parts with the contraction that belongs to these parts, and with
// zeros as perturbation.
func contractedOf(p int64, k known) contractedTo {
	k.build(p)
	x, c := k.Complex, impl.Contraction{}
	for n, dim := range x.Dims {
		down, up, back := zeros(dim, k.Holes[n]), zeros(k.Holes[n], dim), zeros(dim, dimIn(x, int64(n)+1))
		for i := range k.Holes[n] {
			down[k.Ranks[n+1]+i][i], up[i][k.Ranks[n+1]+i] = 1, 1
		}
		for i := range k.Ranks[n+1] {
			back[i][x.Dims[n+1]-1-i] = 1
		}
		c.Down, c.Up, c.Back = append(c.Down, down), append(c.Up, up), append(c.Back, back)
	}
	return contractedTo{x, c, zeroMapsOf(x)}
}

// addToVector adds a multiple of the basis vector j of the degree n to the basis vector i.
func (k contractedTo) addToVector(n int64, i int64, j int64, factor int64) {
	p := k.X.Prime
	addToBasis(k.X, n, i, j, factor)
	addToBasis(complexOf(p, k.X.Dims, k.E...), n, i, j, factor)
	addRow(p, k.C.Down[n], i, j, factor)
	addRow(p, k.C.Back[n], i, j, factor)
	takeColumn(p, k.C.Up[n], i, j, factor)
	if n > 0 {
		takeColumn(p, k.C.Back[n-1], i, j, factor)
	}
}

// addToClass adds a multiple of the class j of the degree n to the class i.
func (k contractedTo) addToClass(n int64, i int64, j int64, factor int64) {
	addRow(k.X.Prime, k.C.Up[n], i, j, factor)
	takeColumn(k.X.Prime, k.C.Down[n], i, j, factor)
}

// timesClass multiplies the class i of the degree n by a number other than 0.
func (k contractedTo) timesClass(n int64, i int64, factor int64) {
	inverse := int64(1)
	for inverse*factor%k.X.Prime != 1 {
		inverse++
	}
	for at := range k.C.Up[n][i] {
		k.C.Up[n][i][at] = k.C.Up[n][i][at] * factor % k.X.Prime
	}
	for _, row := range k.C.Down[n] {
		row[i] = row[i] * inverse % k.X.Prime
	}
}

// mix changes the bases of the complex and of its homology.
func (k contractedTo) mix(g *numbers, steps int) contractedTo {
	for range steps {
		n := g.below(int64(len(k.X.Dims)))
		if dim := k.X.Dims[n]; dim > 1 {
			i, j := g.twoPlaces(dim)
			k.addToVector(n, i, j, g.below(k.X.Prime))
		}
		classes := int64(len(k.C.Up[n]))
		if classes > 1 {
			i, j := g.twoPlaces(classes)
			k.addToClass(n, i, j, g.below(k.X.Prime))
		}
		if classes > 0 {
			k.timesClass(n, g.below(classes), 1+g.below(k.X.Prime-1))
		}
	}
	return k
}

// contractions lists complexes of all primes and tops with contractions of any bases, with homology
// numbers and ranks less than the bounds.
func contractions(each int, holes int64, ranks int64) []contractedTo {
	g := &numbers{state: uint64(101 + holes + ranks)}
	var list []contractedTo
	for _, p := range usualPrimes {
		for top := range int64(impl.MaxTop + 1) {
			for range each {
				list = append(list, contractedOf(p, randomParts(g, top, holes, ranks)).mix(g, 60))
			}
		}
	}
	return list
}

// differenceOf returns the list like Maps that, added to those of x, makes those of y.
func differenceOf(x impl.Complex, y impl.Complex) tables {
	list := tables{}
	for k, table := range x.Maps {
		var rows [][]int64
		for i, row := range table {
			rows = append(rows, sumOfRows(x.Prime, y.Maps[k][i], x.Prime-1, row))
		}
		list = append(list, rows)
	}
	return list
}

// byLevels returns the differentials of a filtered complex that keep levels, with the rest of them as a
// perturbation, and the contraction that the program splits off. It keeps levels too, so that e of Back
// leads to lower ones.
func byLevels(x impl.Filtered) contractedTo {
	kept := copyOf(x.Complex)
	for k, table := range kept.Maps {
		for i, row := range table {
			for j := range row {
				if x.Levels[k+1][i] != x.Levels[k][j] {
					row[j] = 0
				}
			}
		}
	}
	c, code := impl.ContractionOf(kept)
	if code != impl.ErrNone {
		panic(fmt.Sprintf("ContractionOf(%v): code %d", kept, code))
	}
	return contractedTo{kept, c, differenceOf(kept, x.Complex)}
}

// steepFiltereds lists filtered complexes with differentials within each level, and between levels.
func steepFiltereds(each int) []knownFiltered {
	g := &numbers{state: 109}
	var list []knownFiltered
	for _, p := range usualPrimes {
		for top := int64(1); top <= impl.MaxTop; top++ {
			for range each {
				n := g.below(top)
				pieces := []piece{{n, g.below(3), 3 + g.below(3)}, {n + 1, g.below(6), -1}}
				for level := range int64(impl.MaxLevel + 1) {
					pieces = append(pieces, piece{n, level, level})
				}
				list = append(list, filteredOf(g, p, top, pieces))
			}
		}
	}
	return list
}

// perturbedByLevels lists perturbations with rounds of all primes and tops, each one with the split
// contraction and with changed bases.
func perturbedByLevels(each int) []contractedTo {
	g := &numbers{state: 102}
	var list []contractedTo
	for _, k := range slices.Concat(knownFiltereds(each), steepFiltereds(each)) {
		list = append(list, byLevels(k.Filtered), byLevels(k.Filtered).mix(g, 40))
	}
	return list
}

// chainOfRounds makes a perturbation of the given rounds, from 1 to dim: Back leads dim vectors of the
// degree n to as many of the degree above, and e of Back leads each of the first ones to the one before.
func chainOfRounds(p int64, top int64, n int64, dim int64, rounds int64) contractedTo {
	k := known{Ranks: make([]int64, top+2), Holes: make([]int64, top+1)}
	k.Ranks[n+1] = dim
	out := contractedOf(p, k)
	for i := int64(1); i < rounds; i++ {
		out.E[n][dim-1-i][i-1] = 1
	}
	return out
}

// allTables lists all lists of tables of numbers modulo p with the given numbers of rows and columns.
func allTables(p int64, sizes [][2]int64) []tables {
	count := int64(0)
	for _, size := range sizes {
		count += size[0] * size[1]
	}
	var list []tables
	for _, filling := range allRows(p, count) {
		f := tables{}
		for _, size := range sizes {
			table := zeros(size[0], size[1])
			for _, row := range table {
				filling = filling[copy(row, filling):]
			}
			f = append(f, table)
		}
		list = append(list, f)
	}
	return list
}

// allLike lists all lists like Maps.
func allLike(x impl.Complex) []tables {
	var sizes [][2]int64
	for n := 1; n < len(x.Dims); n++ {
		sizes = append(sizes, [2]int64{x.Dims[n], x.Dims[n-1]})
	}
	return allTables(x.Prime, sizes)
}

// sizesOfContraction lists the numbers of the rows and columns of the tables of a contraction of x: first of
// Down, then of Up and of Back.
func sizesOfContraction(x impl.Complex) [][2]int64 {
	var down, up, back [][2]int64
	for n, number := range holesByRanks(x) {
		dim := x.Dims[n]
		down = append(down, [2]int64{dim, number})
		up = append(up, [2]int64{number, dim})
		back = append(back, [2]int64{dim, dimIn(x, int64(n)+1)})
	}
	return slices.Concat(down, up, back)
}

// allCandidates lists all families of tables of the sizes of a contraction of x, if there are not too many.
func allCandidates(x impl.Complex) []impl.Contraction {
	sizes, count, degrees := sizesOfContraction(x), 1.0, len(x.Dims)
	for _, size := range sizes {
		count *= math.Pow(float64(x.Prime), float64(size[0]*size[1]))
	}
	if count > 7000 {
		return nil
	}
	var list []impl.Contraction
	for _, f := range allTables(x.Prime, sizes) {
		list = append(list, impl.Contraction{Down: f[:degrees], Up: f[degrees : 2*degrees], Back: f[2*degrees:]})
	}
	return list
}
