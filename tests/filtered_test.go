package tests

import (
	"slices"

	"loop.example/g01273/impl"
)

// The functions of this file make filtered complexes of which the pages are known, and find pages of
// small ones in the plainest way, from all their vectors.

// piece is a basis vector of a degree and the level Birth with the differential 0. It is the
// differential of one of the degree above and the level Death, or of none if Death is -1.
type piece struct{ Degree, Birth, Death int64 }

// knownFiltered is a filtered complex of which the pieces are known.
type knownFiltered struct {
	impl.Filtered
	Pieces []piece
}

// randomPieces lists at most as many pieces of each degree as the greatest dimensions allow.
func randomPieces(g *numbers, top int64) []piece {
	var list []piece
	for n := int64(0); n <= top; n++ {
		for range g.below(3) {
			list = append(list, piece{n, g.below(impl.MaxLevel + 1), -1})
		}
		if n == top {
			break
		}
		for range g.below(4) {
			birth := g.below(impl.MaxLevel + 1)
			list = append(list, piece{n, birth, birth + g.below(impl.MaxLevel+1-birth)})
		}
	}
	return list
}

// addVector adds a basis vector of a degree and a level with the differential 0, at any place, and
// returns its place.
func (k *knownFiltered) addVector(g *numbers, n int64, level int64) int64 {
	place := g.below(k.Complex.Dims[n] + 1)
	k.Complex.Dims[n]++
	k.Levels[n] = slices.Insert(k.Levels[n], int(place), level)
	if n > 0 {
		k.Complex.Maps[n-1] = slices.Insert(k.Complex.Maps[n-1], int(place), make([]int64, k.Complex.Dims[n-1]))
	}
	if int(n) < len(k.Complex.Maps) {
		for i, row := range k.Complex.Maps[n] {
			k.Complex.Maps[n][i] = slices.Insert(row, int(place), 0)
		}
	}
	return place
}

// filteredOf makes a filtered complex of pieces, and then changes its bases so that the spaces of all
// levels stay the same.
func filteredOf(g *numbers, p int64, top int64, pieces []piece) knownFiltered {
	k := knownFiltered{Pieces: pieces}
	k.Complex = impl.Complex{Prime: p, Dims: make([]int64, top+1), Maps: make([][][]int64, top)}
	k.Levels = make([][]int64, top+1)
	for _, a := range pieces {
		place := k.addVector(g, a.Degree, a.Birth)
		if a.Death >= 0 {
			above := k.addVector(g, a.Degree+1, a.Death)
			k.Complex.Maps[a.Degree][above][place] = 1 + g.below(p-1)
		}
	}
	for range 80 {
		n := g.below(top + 1)
		if dim := k.Complex.Dims[n]; dim > 0 {
			i, j := g.below(dim), g.below(dim)
			if i != j && k.Levels[n][j] <= k.Levels[n][i] {
				addToBasis(k.Complex, n, i, j, g.below(p))
			}
		}
	}
	return k
}

// knownFiltereds lists filtered complexes of all primes and tops.
func knownFiltereds(each int) []knownFiltered {
	g := &numbers{state: 13}
	var list []knownFiltered
	for _, p := range []int64{2, 3, 5, 7} {
		for top := int64(0); top <= impl.MaxTop; top++ {
			for range each {
				list = append(list, filteredOf(g, p, top, randomPieces(g, top)))
			}
		}
	}
	return list
}

// count returns the number of the pieces with a property.
func (k knownFiltered) count(has func(piece) bool) int64 {
	number := int64(0)
	for _, a := range k.Pieces {
		if has(a) {
			number++
		}
	}
	return number
}

// lasting returns the number of the pieces of n and q that are no differentials.
func (k knownFiltered) lasting(n int64, q int64) int64 {
	return k.count(func(a piece) bool { return a == piece{n, q, -1} })
}

// pageNumber returns the number of the page r at n and q. A piece disappears from the pages of
// greater r than Death less Birth.
func (k knownFiltered) pageNumber(r int64, n int64, q int64) int64 {
	return k.lasting(n, q) + k.count(func(a piece) bool {
		return a.Death-a.Birth >= r && (a.Degree == n && a.Birth == q || a.Degree == n-1 && a.Death == q)
	})
}

// rank returns the rank of the page differential of r at n and q.
func (k knownFiltered) rank(r int64, n int64, q int64) int64 {
	return k.count(func(a piece) bool { return a == piece{n - 1, q - r, q} && q >= r })
}

// cycleCount returns the dimension of Z(r, q) of the degree n.
func (k knownFiltered) cycleCount(r int64, n int64, q int64) int64 {
	return k.count(func(a piece) bool {
		return a.Degree == n && a.Birth <= q || a.Degree == n-1 && a.Death >= 0 && a.Death <= q && a.Birth <= q-r
	})
}

// lastPage returns the last page.
func (k knownFiltered) lastPage() int64 {
	last := int64(0)
	for _, a := range k.Pieces {
		if a.Death >= 0 {
			last = max(last, a.Death-a.Birth+1)
		}
	}
	return last
}

// levelBound reports whether a vector is a sum of multiples of basis vectors of at most a level.
func levelBound(v []int64, levels []int64, q int64) bool {
	for i, number := range v {
		if number != 0 && levels[i] > q {
			return false
		}
	}
	return true
}

// isApproximate reports whether a vector of the degree n is in Z(r, q).
func isApproximate(x impl.Filtered, r int64, n int64, q int64, v []int64) bool {
	if !levelBound(v, x.Levels[n], q) {
		return false
	}
	return n == 0 || levelBound(plainDifferential(x.Complex, n, v), x.Levels[n-1], q-r)
}

// plainApproximate lists the vectors of Z(r, q) of the degree n.
func plainApproximate(x impl.Filtered, r int64, n int64, q int64) [][]int64 {
	if int(n) >= len(x.Levels) {
		return nil
	}
	return keep(allRows(x.Complex.Prime, x.Complex.Dims[n]), func(v []int64) bool { return isApproximate(x, r, n, q, v) })
}

// sumsOfVectors lists a sum of each vector of a and each one of b.
func sumsOfVectors(p int64, a [][]int64, b [][]int64) [][]int64 {
	var sums [][]int64
	for _, v := range a {
		for _, w := range b {
			sum := slices.Clone(v)
			for i := range sum {
				sum[i] = (sum[i] + w[i]) % p
			}
			sums = append(sums, sum)
		}
	}
	return sums
}

// plainDifferentials lists the differentials of vectors of the degree n, and 0 in the degree below.
func plainDifferentials(x impl.Complex, n int64, list [][]int64) [][]int64 {
	images := [][]int64{make([]int64, x.Dims[n-1])}
	for _, v := range list {
		images = append(images, plainDifferential(x, n, v))
	}
	return images
}

// plainBottom lists the vectors of the bottom of r, q and n.
func plainBottom(x impl.Filtered, r int64, n int64, q int64) [][]int64 {
	images := plainDifferentials(x.Complex, n+1, plainApproximate(x, r-1, n+1, q+r-1))
	return sumsOfVectors(x.Complex.Prime, plainApproximate(x, r-1, n, q-1), images)
}

// plainLimitSpace lists the sums of cycles in F(q) of the degree n and boundaries.
func plainLimitSpace(x impl.Filtered, n int64, q int64) [][]int64 {
	cycles := keep(allRows(x.Complex.Prime, x.Complex.Dims[n]), func(v []int64) bool {
		return levelBound(v, x.Levels[n], q) && isZeroRow(plainDifferential(x.Complex, n, v))
	})
	return sumsOfVectors(x.Complex.Prime, cycles, plainDifferentials(x.Complex, n+1, plainApproximate(x, 0, n+1, impl.MaxLevel)))
}

// dimensionOf returns the dimension of a space modulo p of the given number of vectors.
func dimensionOf(p int64, size int) int64 {
	dimension := int64(0)
	for size > 1 {
		size /= int(p)
		dimension++
	}
	return dimension
}

// smallFiltereds lists filtered complexes of few vectors, with levels that are far apart and close.
func smallFiltereds(each int) []impl.Filtered {
	g := &numbers{state: 17}
	var list []impl.Filtered
	for _, p := range []int64{2, 3, 5, 7} {
		shapes := [][]int64{{0}, {2}, {2, 2}, {0, 2}, {2, 0, 1}, {1, 2, 1}, {1, 1, 1, 1}}
		if p == 2 {
			shapes = append(shapes, []int64{3, 3}, []int64{2, 3, 2}, []int64{1, 2, 2, 1}, []int64{1, 1, 2, 1, 0, 1})
		}
		for _, dims := range shapes {
			for range each {
				list = append(list, randomFiltered(g, p, dims))
			}
		}
	}
	return list
}

// randomFiltered returns a filtered complex of the given dimensions: any levels, and any
// differentials that do not raise them. It tries until the differential of each differential is 0.
func randomFiltered(g *numbers, p int64, dims []int64) impl.Filtered {
	for {
		x := impl.Filtered{Complex: impl.Complex{Prime: p, Dims: slices.Clone(dims)}}
		for n, dim := range dims {
			x.Levels = append(x.Levels, g.row(impl.MaxLevel+1, dim))
			if n > 0 {
				x.Complex.Maps = append(x.Complex.Maps, g.levelTable(p, x.Levels[n], x.Levels[n-1]))
			}
		}
		if plainIsComplex(x.Complex) {
			return x
		}
	}
}

// levelTable returns a table with numbers other than 0 only where the level of the row is at least
// that of the column, and about a third of these 0 as well.
func (g *numbers) levelTable(p int64, rows []int64, columns []int64) [][]int64 {
	table := g.table(p, int64(len(rows)), int64(len(columns)))
	for i, row := range table {
		for j := range row {
			if columns[j] > rows[i] || g.below(3) == 0 {
				row[j] = 0
			}
		}
	}
	return table
}
