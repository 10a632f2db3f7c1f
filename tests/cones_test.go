package tests

import (
	"fmt"
	"slices"

	"loop.example/g01273/impl"
)

// The functions of this file make chain maps of which the induced ranks are known, and find what
// families do to small complexes in the plainest way, from all their vectors.

// tables is a family from one complex to another one.
type tables = [][][]int64

// dimIn returns the dimension of the degree n, 0 beyond the degrees of x.
func dimIn(x impl.Complex, n int64) int64 {
	if n < 0 || int(n) >= len(x.Dims) {
		return 0
	}
	return x.Dims[n]
}

// basisOf lists the basis vectors of a degree of the dimension dim.
func basisOf(dim int64) [][]int64 {
	basis := zeros(dim, dim)
	for i := range basis {
		basis[i][i] = 1
	}
	return basis
}

// plainImage returns the image of a vector of the degree n under a family of the shift s to y.
func plainImage(y impl.Complex, f tables, s int64, n int64, v []int64) []int64 {
	if n < 0 || int(n) >= len(f) {
		return make([]int64, dimIn(y, n+s))
	}
	return timesTable(y.Prime, v, f[n], dimIn(y, n+s))
}

// plainBoundary returns the differential of a vector of any degree, also of one beyond those of x.
func plainBoundary(x impl.Complex, n int64, v []int64) []int64 {
	if n < 1 || int(n) >= len(x.Dims) {
		return make([]int64, dimIn(x, n-1))
	}
	return plainDifferential(x, n, v)
}

// sumOfRows returns a and k times b together.
func sumOfRows(p int64, a []int64, k int64, b []int64) []int64 {
	sum := make([]int64, len(a))
	for i := range sum {
		sum[i] = (a[i] + k*b[i]) % p
	}
	return sum
}

// rowsBy returns the table of the rows that a function makes of basis vectors.
func rowsBy(dim int64, image func([]int64) []int64) [][]int64 {
	table := [][]int64{}
	for _, v := range basisOf(dim) {
		table = append(table, image(v))
	}
	return table
}

// familyBy returns the family with the rows that a function makes of the basis vectors of x.
func familyBy(x impl.Complex, image func(int64, []int64) []int64) tables {
	f := tables{}
	for n, dim := range x.Dims {
		f = append(f, rowsBy(dim, func(v []int64) []int64 { return image(int64(n), v) }))
	}
	return f
}

// plainSum returns f and k times g together.
func plainSum(x impl.Complex, y impl.Complex, f tables, g tables, k int64) tables {
	return familyBy(x, func(n int64, v []int64) []int64 {
		return sumOfRows(x.Prime, plainImage(y, f, 0, n, v), k, plainImage(y, g, 0, n, v))
	})
}

// plainComposition returns the composition of f to y and g to z.
func plainComposition(x impl.Complex, y impl.Complex, z impl.Complex, f tables, g tables) tables {
	return familyBy(x, func(n int64, v []int64) []int64 {
		return plainImage(z, g, 0, n, plainImage(y, f, 0, n, v))
	})
}

// plainNull returns the family of the shift 0 that is d h v, and h d v, together.
func plainNull(x impl.Complex, y impl.Complex, h tables) tables {
	return familyBy(x, func(n int64, v []int64) []int64 {
		return sumOfRows(x.Prime, plainBoundary(y, n+1, plainImage(y, h, 1, n, v)), 1, plainImage(y, h, 1, n-1, plainBoundary(x, n, v)))
	})
}

// plainIsChainMap reports whether the image of the differential of each basis vector is the
// differential of its image.
func plainIsChainMap(x impl.Complex, y impl.Complex, f tables) bool {
	for n, dim := range x.Dims {
		for _, v := range basisOf(dim) {
			a := plainImage(y, f, 0, int64(n)-1, plainBoundary(x, int64(n), v))
			if !slices.Equal(a, plainBoundary(y, int64(n), plainImage(y, f, 0, int64(n), v))) {
				return false
			}
		}
	}
	return true
}

// coneLabel is a basis vector of a cone: whether it is one of x, its degree there, and its place.
type coneLabel struct {
	ofX    bool
	degree int64
	place  int
}

// coneLabels lists the basis vectors of the degree n of a cone, in order.
func coneLabels(x impl.Complex, y impl.Complex, n int64) []coneLabel {
	var list []coneLabel
	for place := range dimIn(y, n) {
		list = append(list, coneLabel{false, n, int(place)})
	}
	for place := range dimIn(x, n-1) {
		list = append(list, coneLabel{true, n - 1, int(place)})
	}
	return list
}

// coneNumber returns the number of one basis vector of a cone in the differential of another one.
func coneNumber(x impl.Complex, y impl.Complex, f tables, from coneLabel, to coneLabel) int64 {
	switch {
	case from.ofX && !to.ofX:
		return f[from.degree][from.place][to.place]
	case from.ofX:
		return (x.Prime - x.Maps[to.degree][from.place][to.place]) % x.Prime
	case !to.ofX:
		return y.Maps[to.degree][from.place][to.place]
	}
	return 0
}

// plainCone returns the cone of a chain map, each number looked up by its own labels, also if it
// exceeds limits.
func plainCone(x impl.Complex, y impl.Complex, f tables) impl.Complex {
	cone := impl.Complex{Prime: x.Prime}
	for n := range int64(len(x.Dims) + 1) {
		cone.Dims = append(cone.Dims, int64(len(coneLabels(x, y, n))))
	}
	for n := int64(1); int(n) < len(cone.Dims); n++ {
		cone.Maps = append(cone.Maps, tableOf(coneLabels(x, y, n), coneLabels(x, y, n-1), func(from coneLabel, to coneLabel) int64 {
			return coneNumber(x, y, f, from, to)
		}))
	}
	return cone
}

// hasCone reports whether cones from x to y keep to the limits.
func hasCone(x impl.Complex, y impl.Complex) bool {
	for n := range int64(len(x.Dims) + 1) {
		if dimIn(y, n)+dimIn(x, n-1) > impl.MaxDim {
			return false
		}
	}
	return len(x.Dims) <= impl.MaxTop
}

// plainCycles lists the cycles of the degree n, which may be beyond those of x.
func plainCycles(x impl.Complex, n int64) [][]int64 {
	return keep(allRows(x.Prime, dimIn(x, n)), func(v []int64) bool { return isZeroRow(plainBoundary(x, n, v)) })
}

// plainBoundaries lists the boundaries of the degree n, some of them more than once.
func plainBoundaries(x impl.Complex, n int64) [][]int64 {
	var list [][]int64
	for _, v := range allRows(x.Prime, dimIn(x, n+1)) {
		list = append(list, plainBoundary(x, n+1, v))
	}
	return list
}

// plainHomology counts the homology number of the degree n.
func plainHomology(x impl.Complex, n int64) int64 {
	return dimensionOf(x.Prime, len(plainCycles(x, n))) - dimensionOf(x.Prime, len(setOf(plainBoundaries(x, n))))
}

// plainInduced counts the induced rank of f at n.
func plainInduced(x impl.Complex, y impl.Complex, f tables, n int64) int64 {
	var images [][]int64
	for _, v := range plainCycles(x, n) {
		images = append(images, plainImage(y, f, 0, n, v))
	}
	boundaries := plainBoundaries(y, n)
	return dimensionOf(x.Prime, len(setOf(sumsOfVectors(x.Prime, images, boundaries)))) - dimensionOf(x.Prime, len(setOf(boundaries)))
}

// allFamilies lists all families from x to y of the shift s.
func allFamilies(x impl.Complex, y impl.Complex, s int64) []tables {
	count := int64(0)
	for n, dim := range x.Dims {
		count += dim * dimIn(y, int64(n)+s)
	}
	var list []tables
	for _, filling := range allRows(x.Prime, count) {
		f := tables{}
		for n, dim := range x.Dims {
			table := zeros(dim, dimIn(y, int64(n)+s))
			for _, row := range table {
				filling = filling[copy(row, filling):]
			}
			f = append(f, table)
		}
		list = append(list, f)
	}
	return list
}

// randomFamily returns a family from x to y of the shift s.
func randomFamily(g *numbers, x impl.Complex, y impl.Complex, s int64) tables {
	f := tables{}
	for n, dim := range x.Dims {
		f = append(f, g.table(x.Prime, dim, dimIn(y, int64(n)+s)))
	}
	return f
}

// ends are two complexes with the same Prime and equally many degrees.
type ends struct{ x, y impl.Complex }

// smallEnds lists all complexes modulo p of the dimensions a together with all of the dimensions b.
func smallEnds(p int64, a []int64, b []int64) []ends {
	var list []ends
	xs, _ := smallComplexes(p, a...)
	ys, _ := smallComplexes(p, b...)
	for _, x := range xs {
		for _, y := range ys {
			list = append(list, ends{x, y})
		}
	}
	return list
}

// allSmallEnds lists complexes between which there are few families.
func allSmallEnds() []ends {
	shapes := map[int64][][2][]int64{
		2: {
			{{2}, {2}}, {{0}, {2}}, {{2}, {0}}, {{1, 1}, {1, 1}}, {{2, 1}, {1, 2}}, {{1, 2}, {2, 1}}, {{2, 0}, {1, 1}}, {{0, 2}, {2, 1}},
			{{1, 1, 1}, {1, 1, 1}}, {{1, 1, 0}, {0, 1, 1}}, {{1, 2, 1}, {1, 1, 1}}, {{1, 1, 1}, {1, 2, 1}}, {{1, 1, 1, 1}, {1, 1, 1, 1}},
		},
		3: {{{1}, {2}}, {{1, 1}, {1, 1}}, {{2, 1}, {1, 1}}, {{1, 1}, {1, 2}}, {{1, 1, 1}, {1, 1, 1}}},
		5: {{{1, 1}, {1, 1}}, {{1, 0}, {2, 1}}},
		7: {{{1, 1}, {1, 1}}},
	}
	var list []ends
	for _, p := range []int64{2, 3, 5, 7} {
		for _, shape := range shapes[p] {
			list = append(list, smallEnds(p, shape[0], shape[1])...)
		}
	}
	return list
}

// knownMap is a chain map of which the induced ranks are known.
type knownMap struct {
	X, Y  known
	F     tables
	Ranks []int64
}

// name prints a known map.
func (m knownMap) name() string {
	return fmt.Sprintf("from %v to %v by %v", m.X.Complex, m.Y.Complex, m.F)
}

// square returns a table of n rows of n numbers with an inverse.
func (g *numbers) square(p int64, n int64) [][]int64 {
	for {
		if table := g.table(p, n, n); int64(plainRank(p, table)) == n {
			return table
		}
	}
}

// mapBetween makes a chain map between complexes of known parts: tables lead holes to holes, and
// anything that leads homology to 0 is added; all bases are changed then.
func mapBetween(g *numbers, p int64, x known, y known, onHoles func(n int) [][]int64) knownMap {
	x.build(p)
	y.build(p)
	m := knownMap{X: x, Y: y, F: plainNull(x.Complex, y.Complex, randomFamily(g, x.Complex, y.Complex, 1))}
	for n := range x.Dims {
		table := onHoles(n)
		for i, row := range table {
			image := m.F[n][x.Ranks[n+1]+int64(i)][y.Ranks[n+1]:]
			for j, number := range row {
				image[j] = (image[j] + number) % p
			}
		}
		m.Ranks = append(m.Ranks, int64(plainRank(p, table)))
	}
	for range 60 {
		m.mix(g)
	}
	return m
}

// twoPlaces returns two different numbers below n, which has to be greater than 1.
func (g *numbers) twoPlaces(n int64) (int64, int64) {
	i := g.below(n)
	return i, (i + 1 + g.below(n-1)) % n
}

// mix adds a multiple of one basis vector to another one of the same degree, of x and of y.
func (m knownMap) mix(g *numbers) {
	p, n := m.X.Prime, g.below(int64(len(m.X.Dims)))
	if m.X.Dims[n] > 1 {
		i, j := g.twoPlaces(m.X.Dims[n])
		factor := g.below(p)
		addToBasis(m.X.Complex, n, i, j, factor)
		copy(m.F[n][i], sumOfRows(p, m.F[n][i], factor, m.F[n][j]))
	}
	m.mixEnd(g, n)
}

// mixEnd adds a multiple of one basis vector to another one of the degree n of y.
func (m knownMap) mixEnd(g *numbers, n int64) {
	p := m.Y.Prime
	if m.Y.Dims[n] < 2 {
		return
	}
	i, j := g.twoPlaces(m.Y.Dims[n])
	factor := g.below(p)
	addToBasis(m.Y.Complex, n, i, j, factor)
	for _, row := range m.F[n] {
		row[j] = (row[j] + (p-factor)*row[i]) % p
	}
}

// copyOf returns a copy of a complex.
func copyOf(x impl.Complex) impl.Complex {
	out := impl.Complex{Prime: x.Prime, Dims: slices.Clone(x.Dims)}
	for n, table := range x.Maps {
		out.Maps = append(out.Maps, rowsBy(x.Dims[n+1], func(v []int64) []int64 {
			return timesTable(x.Prime, v, table, x.Dims[n])
		}))
	}
	return out
}

// movedFrom makes a chain map from y to a copy of it with other bases: one that leads each vector to
// itself, told by these bases, and what leads homology to 0.
func movedFrom(g *numbers, y known) knownMap {
	m := knownMap{X: y, Y: y, Ranks: y.Holes}
	m.Y.Complex = copyOf(y.Complex)
	m.F = familyBy(y.Complex, func(_ int64, v []int64) []int64 { return v })
	for range 60 {
		m.mixEnd(g, g.below(int64(len(y.Dims))))
	}
	null := plainNull(y.Complex, m.Y.Complex, randomFamily(g, y.Complex, m.Y.Complex, 1))
	m.F = plainSum(y.Complex, m.Y.Complex, m.F, null, 1)
	return m
}

// anyMap makes a chain map of the given top, with homology numbers and ranks less than the bounds.
func anyMap(g *numbers, p int64, top int64, holes int64, ranks int64) knownMap {
	x, y := randomParts(g, top, holes, ranks), randomParts(g, top, holes, ranks)
	return mapBetween(g, p, x, y, func(n int) [][]int64 { return g.table(p, x.Holes[n], y.Holes[n]) })
}

// quasiMap makes a chain map that is a quasi isomorphism, with parts as for anyMap.
func quasiMap(g *numbers, p int64, top int64, holes int64, ranks int64) knownMap {
	x, y := randomParts(g, top, holes, ranks), randomParts(g, top, holes, ranks)
	y.Holes = slices.Clone(x.Holes)
	return mapBetween(g, p, x, y, func(n int) [][]int64 { return g.square(p, x.Holes[n]) })
}

// knownMaps lists chain maps of all primes and tops, small ones with cones and greater ones, half of
// them quasi isomorphisms.
func knownMaps(each int) []knownMap {
	g := &numbers{state: 61}
	var list []knownMap
	for _, p := range []int64{2, 3, 5, 7} {
		for top := int64(0); top <= impl.MaxTop; top++ {
			for range each {
				list = append(list, anyMap(g, p, top, 2, 2), quasiMap(g, p, top, 2, 2), anyMap(g, p, top, 3, 4), quasiMap(g, p, top, 3, 4))
			}
		}
	}
	return list
}

// isQuasi reports whether a known map leads homology one to one onto homology.
func (m knownMap) isQuasi() bool {
	return slices.Equal(m.Ranks, m.X.Holes) && slices.Equal(m.Ranks, m.Y.Holes)
}

// coneHoles returns the homology numbers of the cone of a known map: what f does not reach, and in
// the degree above what it leads to 0.
func (m knownMap) coneHoles() []int64 {
	holes := make([]int64, len(m.Ranks)+1)
	for n, rank := range m.Ranks {
		holes[n] += m.Y.Holes[n] - rank
		holes[n+1] += m.X.Holes[n] - rank
	}
	return holes
}

// changed returns a copy of a family with another number at one place, and whether there is a place.
func changed(g *numbers, p int64, f tables) (tables, bool) {
	out := tables{}
	var places []*int64
	for _, table := range f {
		rows := [][]int64{}
		for _, row := range table {
			rows = append(rows, slices.Clone(row))
			for i := range row {
				places = append(places, &rows[len(rows)-1][i])
			}
		}
		out = append(out, rows)
	}
	if len(places) == 0 {
		return out, false
	}
	place := places[g.below(int64(len(places)))]
	*place = (*place + 1 + g.below(p-1)) % p
	return out, true
}
