package tests

import (
	"fmt"
	"slices"

	"loop.example/g01273/impl"
)

// The functions of this file make double complexes of which all numbers are known, and find the
// numbers of small ones in the plainest way, from all their vectors.

// spot is a cell of a double complex, or one beside it.
type spot struct{ i, j int64 }

// way is one of both differentials of a double complex, with the step that it makes.
type way struct {
	tables [][][][]int64
	step   spot
}

func acrossWay(x impl.Double) way { return way{x.Across, spot{1, 0}} }

func downWay(x impl.Double) way { return way{x.Down, spot{0, 1}} }

// waysOfDouble returns first the differential within the parts of a filtration, and then the other
// one: down and across by columns, across and down by rows.
func waysOfDouble(x impl.Double, rows bool) (way, way) {
	if rows {
		return acrossWay(x), downWay(x)
	}
	return downWay(x), acrossWay(x)
}

// target is where a differential leads from a cell.
func (a way) target(c spot) spot { return spot{c.i - a.step.i, c.j - a.step.j} }

// source is from where a differential leads to a cell.
func (a way) source(c spot) spot { return spot{c.i + a.step.i, c.j + a.step.j} }

// spotsOf lists the cells, column by column.
func spotsOf(x impl.Double) []spot {
	var list []spot
	for i, column := range x.Dims {
		for j := range column {
			list = append(list, spot{int64(i), int64(j)})
		}
	}
	return list
}

// dimOf returns the dimension of a cell, 0 beside the double complex.
func dimOf(dims [][]int64, c spot) int64 {
	if c.i < 0 || c.j < 0 || int(c.i) >= len(dims) || int(c.j) >= len(dims[c.i]) {
		return 0
	}
	return dims[c.i][c.j]
}

// imageOf returns the differential of a vector of a cell.
func imageOf(x impl.Double, a way, c spot, v []int64) []int64 {
	return timesTable(x.Prime, v, a.tables[c.i][c.j], dimOf(x.Dims, a.target(c)))
}

// imagesAt lists the differentials, in a cell, of the vectors with a property, and 0.
func imagesAt(x impl.Double, a way, c spot, has func(spot, []int64) bool) [][]int64 {
	images := [][]int64{make([]int64, dimOf(x.Dims, c))}
	from := a.source(c)
	if dimOf(x.Dims, from) == 0 {
		return images
	}
	for _, v := range allRows(x.Prime, dimOf(x.Dims, from)) {
		if has(from, v) {
			images = append(images, imageOf(x, a, from, v))
		}
	}
	return images
}

// plainFirst counts a homology number of a cell: that of the column by columns, of the row by rows.
func plainFirst(x impl.Double, rows bool, c spot) int64 {
	first, _ := waysOfDouble(x, rows)
	cycles := keep(allRows(x.Prime, dimOf(x.Dims, c)), func(v []int64) bool { return isZeroRow(imageOf(x, first, c, v)) })
	images := setOf(imagesAt(x, first, c, func(spot, []int64) bool { return true }))
	return dimensionOf(x.Prime, len(cycles)) - dimensionOf(x.Prime, len(images))
}

// plainSecond counts the second number of a cell.
func plainSecond(x impl.Double, rows bool, c spot) int64 {
	first, second := waysOfDouble(x, rows)
	isCycle := func(from spot, v []int64) bool { return isZeroRow(imageOf(x, first, from, v)) }
	always := func(spot, []int64) bool { return true }
	aim := setOf(imagesAt(x, first, second.target(c), always))
	kept := keep(allRows(x.Prime, dimOf(x.Dims, c)), func(v []int64) bool {
		return isCycle(c, v) && aim[fmt.Sprint(imageOf(x, second, c, v))]
	})
	reached := setOf(sumsOfVectors(x.Prime, imagesAt(x, first, c, always), imagesAt(x, second, c, isCycle)))
	return dimensionOf(x.Prime, len(kept)) - dimensionOf(x.Prime, len(reached))
}

// tableOfSpots returns the table of a number of each cell.
func tableOfSpots(x impl.Double, number func(spot) int64) [][]int64 {
	table := make([][]int64, len(x.Dims))
	for _, c := range spotsOf(x) {
		table[c.i] = append(table[c.i], number(c))
	}
	return table
}

// plainIsDouble reports whether the differentials of x, with all sizes right, are those of a double
// complex.
func plainIsDouble(x impl.Double) bool {
	across, down := acrossWay(x), downWay(x)
	for _, c := range spotsOf(x) {
		for k := range x.Dims[c.i][c.j] {
			v := make([]int64, x.Dims[c.i][c.j])
			v[k] = 1
			left, below := across.target(c), down.target(c)
			if left.i > 0 && !isZeroRow(imageOf(x, across, left, imageOf(x, across, c, v))) {
				return false
			}
			if below.j > 0 && !isZeroRow(imageOf(x, down, below, imageOf(x, down, c, v))) {
				return false
			}
			if left.i < 0 || below.j < 0 {
				continue
			}
			a, b := imageOf(x, down, left, imageOf(x, across, c, v)), imageOf(x, across, below, imageOf(x, down, c, v))
			for place := range a {
				if (a[place]+b[place])%x.Prime != 0 {
					return false
				}
			}
		}
	}
	return true
}

// zeroDouble returns a double complex of the given dimensions with differentials 0. What the
// dimensions should not be, it takes as far as it can.
func zeroDouble(p int64, dims [][]int64) impl.Double {
	x := impl.Double{Prime: p}
	for i, column := range dims {
		x.Dims = append(x.Dims, slices.Clone(column))
		x.Across, x.Down = append(x.Across, nil), append(x.Down, nil)
		for j, dim := range column {
			rows, c := min(max(dim, 0), 20), spot{int64(i), int64(j)}
			left, below := dimOf(dims, spot{c.i - 1, c.j}), dimOf(dims, spot{c.i, c.j - 1})
			x.Across[i] = append(x.Across[i], zeros(rows, min(max(left, 0), 20)))
			x.Down[i] = append(x.Down[i], zeros(rows, min(max(below, 0), 20)))
		}
	}
	return x
}

// zeros returns a table of zeros.
func zeros(rows int64, columns int64) [][]int64 {
	table := make([][]int64, rows)
	for i := range table {
		table[i] = make([]int64, columns)
	}
	return table
}

// sameDims returns w columns of h cells of the same dimension.
func sameDims(w int64, h int64, dim int64) [][]int64 {
	dims := make([][]int64, w)
	for i := range dims {
		dims[i] = slices.Repeat([]int64{dim}, int(h))
	}
	return dims
}

// numbersOf lists where the numbers of the tables of a double complex are.
func numbersOf(x impl.Double) []*int64 {
	var list []*int64
	for _, tables := range [][][][][]int64{x.Across, x.Down} {
		for _, column := range tables {
			for _, table := range column {
				for _, row := range table {
					for place := range row {
						list = append(list, &row[place])
					}
				}
			}
		}
	}
	return list
}

// smallDoubles lists all double complexes modulo p of the given dimensions, and what is none
// although all sizes are right.
func smallDoubles(p int64, dims [][]int64) (doubles []impl.Double, others []impl.Double) {
	for _, filling := range allRows(p, int64(len(numbersOf(zeroDouble(p, dims))))) {
		x := zeroDouble(p, dims)
		for k, number := range numbersOf(x) {
			*number = filling[k]
		}
		if plainIsDouble(x) {
			doubles = append(doubles, x)
		} else {
			others = append(others, x)
		}
	}
	return doubles, others
}

// smallShapes lists dimensions with few numbers in their tables, with a prime for each.
func smallShapes() map[int64][][][]int64 {
	return map[int64][][][]int64{
		2: {sameDims(3, 3, 1), {{1, 2}, {2, 1}}, {{2, 1, 1}}, {{2}, {1}, {2}}, {{0, 2}, {2, 1}}, {{1, 1}, {1, 1}, {1, 1}, {0, 1}}, {{1, 1, 0, 1}, {1, 1, 1, 1}}},
		3: {sameDims(2, 2, 1), {{1, 2}, {1, 1}}, sameDims(3, 2, 1), {{2}}, {{0}}, {{1, 1, 2}}},
		5: {sameDims(2, 2, 1), sameDims(1, 4, 1)},
		7: {sameDims(2, 2, 1), sameDims(4, 1, 1), {{1, 0}, {2, 1}}},
	}
}

// strip is a part of a double complex without squares: one basis vector in each of its cells, which
// go to the right and down, each two neighbours joined by a differential down or across, in turns.
type strip struct {
	spots     []spot
	downFirst bool
}

// isDown reports whether the differential between the cells k and k + 1 leads down.
func (s strip) isDown(k int) bool { return (k%2 == 0) == s.downFirst }

// free lists the cells of a strip that no differential down (by columns), or none across (by rows),
// leads to or from.
func (s strip) free(rows bool) []spot {
	var list []spot
	for k, c := range s.spots {
		before, behind := k > 0 && s.isDown(k-1) != rows, k+1 < len(s.spots) && s.isDown(k) != rows
		if !before && !behind {
			list = append(list, c)
		}
	}
	return list
}

// freeTwice lists the cells of a strip that are left on the page 2. Two alone that the other
// differential joins are not; in longer strips the ends are too far from each other.
func (s strip) freeTwice(rows bool) []spot {
	if len(s.spots) == 2 {
		return nil
	}
	return s.free(rows)
}

// knownDouble is a double complex of which the parts are known. Squares have no homology.
type knownDouble struct {
	impl.Double
	Strips []strip
}

// count returns the table of how often each cell is in a list that each strip has.
func (k knownDouble) count(list func(strip) []spot) [][]int64 {
	return tableOfSpots(k.Double, func(c spot) int64 {
		number := int64(0)
		for _, s := range k.Strips {
			for _, free := range list(s) {
				if free == c {
					number++
				}
			}
		}
		return number
	})
}

// holes returns the homology numbers of the total. A strip of an odd number of cells leaves one
// vector in the degree of both of its ends.
func (k knownDouble) holes() []int64 {
	holes := make([]int64, len(k.Dims)+len(k.Dims[0])-1)
	for _, s := range k.Strips {
		if len(s.spots)%2 == 1 {
			holes[s.spots[0].i+s.spots[0].j]++
		}
	}
	return holes
}

// hasRoom reports whether one more basis vector fits in each of the cells of a list, which names
// none twice.
func (k *knownDouble) hasRoom(spots []spot) bool {
	return !slices.ContainsFunc(spots, func(c spot) bool { return k.Dims[c.i][c.j] >= impl.MaxCell })
}

// addVector adds a basis vector at the end of a cell, with the differentials 0.
func (k *knownDouble) addVector(c spot) int64 {
	place := k.Dims[c.i][c.j]
	k.Dims[c.i][c.j]++
	for _, a := range []way{acrossWay(k.Double), downWay(k.Double)} {
		a.tables[c.i][c.j] = append(a.tables[c.i][c.j], make([]int64, dimOf(k.Dims, a.target(c))))
		from := a.source(c)
		if int(from.i) < len(k.Dims) && int(from.j) < len(k.Dims[0]) {
			for row := range a.tables[from.i][from.j] {
				a.tables[from.i][from.j][row] = append(a.tables[from.i][from.j][row], 0)
			}
		}
	}
	return place
}

// randomStrip returns a strip that fits in w columns of h cells, as long as its steps find cells.
func randomStrip(g *numbers, w int64, h int64) strip {
	s := strip{spots: []spot{{g.below(w), g.below(h)}}, downFirst: g.below(2) == 0}
	for range g.below(w + h) {
		next := s.spots[len(s.spots)-1]
		if s.isDown(len(s.spots) - 1) {
			next.j--
		} else {
			next.i++
		}
		if next.j < 0 || next.i >= w {
			break
		}
		s.spots = append(s.spots, next)
	}
	return s
}

// addStrip adds the basis vectors and the differentials of a strip.
func (k *knownDouble) addStrip(g *numbers, s strip) {
	var places []int64
	for _, c := range s.spots {
		places = append(places, k.addVector(c))
	}
	for at := range len(s.spots) - 1 {
		a, b := s.spots[at], s.spots[at+1]
		if s.isDown(at) {
			k.Down[a.i][a.j][places[at]][places[at+1]] = 1 + g.below(k.Prime-1)
		} else {
			k.Across[b.i][b.j][places[at+1]][places[at]] = 1 + g.below(k.Prime-1)
		}
	}
	k.Strips = append(k.Strips, s)
}

// addSquare adds four basis vectors with all differentials between them, c at the right and above.
func (k *knownDouble) addSquare(g *numbers, c spot) {
	p, left, below := k.Prime, spot{c.i - 1, c.j}, spot{c.i, c.j - 1}
	high, low := k.addVector(c), k.addVector(spot{c.i - 1, c.j - 1})
	side, under := k.addVector(left), k.addVector(below)
	a, b := 1+g.below(p-1), 1+g.below(p-1)
	k.Across[c.i][c.j][high][side] = a
	k.Down[left.i][left.j][side][low] = b
	k.Down[c.i][c.j][high][under] = 1
	k.Across[below.i][below.j][under][low] = (p - a*b%p) % p
}

// mix adds a multiple of one basis vector of a cell to another one.
func (k *knownDouble) mix(g *numbers, c spot) {
	dim := k.Dims[c.i][c.j]
	if dim < 2 {
		return
	}
	to := g.below(dim)
	from, factor := (to+1+g.below(dim-1))%dim, g.below(k.Prime)
	for _, a := range []way{acrossWay(k.Double), downWay(k.Double)} {
		table := a.tables[c.i][c.j]
		for place := range table[to] {
			table[to][place] = (table[to][place] + factor*table[from][place]) % k.Prime
		}
		source := a.source(c)
		if dimOf(k.Dims, source) == 0 {
			continue
		}
		for _, row := range a.tables[source.i][source.j] {
			row[from] = (row[from] + (k.Prime-factor)*row[to]) % k.Prime
		}
	}
}

// doubleOf makes a double complex of at most the given number of parts, with any bases.
func doubleOf(g *numbers, p int64, w int64, h int64, parts int64) knownDouble {
	k := knownDouble{Double: zeroDouble(p, sameDims(w, h, 0))}
	for range parts {
		if w > 1 && h > 1 && g.below(3) == 0 {
			c := spot{1 + g.below(w-1), 1 + g.below(h-1)}
			if k.hasRoom([]spot{c, {c.i - 1, c.j}, {c.i, c.j - 1}, {c.i - 1, c.j - 1}}) {
				k.addSquare(g, c)
			}
		} else if s := randomStrip(g, w, h); k.hasRoom(s.spots) {
			k.addStrip(g, s)
		}
	}
	for _, c := range spotsOf(k.Double) {
		for range 8 {
			k.mix(g, c)
		}
	}
	return k
}

// knownDoubles lists double complexes of all primes and sides: of no part, of few and of many.
func knownDoubles(each int) []knownDouble {
	g := &numbers{state: 31}
	var list []knownDouble
	for _, p := range []int64{2, 3, 5, 7} {
		for w := int64(1); w <= impl.MaxSide; w++ {
			for h := int64(1); h <= impl.MaxSide; h++ {
				list = append(list, doubleOf(g, p, w, h, 0))
				for n := range each {
					list = append(list, doubleOf(g, p, w, h, 1+int64(n)*3+g.below(4)))
				}
			}
		}
	}
	return list
}

// totalDims returns the dimensions that the total has, or would have.
func totalDims(x impl.Double) []int64 {
	dims := make([]int64, len(x.Dims)+len(x.Dims[0])-1)
	for _, c := range spotsOf(x) {
		dims[c.i+c.j] += x.Dims[c.i][c.j]
	}
	return dims
}

// hasTotal reports whether the total keeps to the limits.
func hasTotal(x impl.Double) bool {
	dims := totalDims(x)
	return len(dims) <= impl.MaxTop+1 && slices.Max(dims) <= impl.MaxDim
}

// label is a basis vector of a total: the cell, and the number in it.
type label struct {
	spot
	place int64
}

// labelsOf lists the basis vectors of the degree n of a total, in order.
func labelsOf(x impl.Double, n int64) []label {
	var list []label
	for i := range int64(len(x.Dims)) {
		for place := range dimOf(x.Dims, spot{i, n - i}) {
			list = append(list, label{spot{i, n - i}, place})
		}
	}
	return list
}

// plainTotal returns the total of x, each number looked up by its own labels.
func plainTotal(x impl.Double) impl.Complex {
	total := impl.Complex{Prime: x.Prime, Dims: totalDims(x)}
	for n := int64(1); int(n) < len(total.Dims); n++ {
		total.Maps = append(total.Maps, tableOf(labelsOf(x, n), labelsOf(x, n-1), func(from label, to label) int64 {
			switch {
			case to.j == from.j:
				return x.Across[from.i][from.j][from.place][to.place]
			case to.i == from.i:
				return x.Down[from.i][from.j][from.place][to.place]
			}
			return 0
		}))
	}
	return total
}
