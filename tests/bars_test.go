package tests

import (
	"fmt"
	"slices"
	"strings"
	"testing"

	"loop.example/g01273/impl"
)

// The functions of this file list bars, and find ranks between levels, bars, complexes of bars and texts
// in the plainest way.

// bar is a bar by its numbers.
func bar(degree int64, birth int64, death int64) impl.Bar {
	return impl.Bar{Degree: degree, Birth: birth, Death: death}
}

// plainPlace returns a number that grows with the place of a bar in the order of bars.
func plainPlace(b impl.Bar) int64 {
	death := b.Death
	if death < 0 {
		death = 9
	}
	return b.Degree*100 + b.Birth*10 + death
}

// inOrder returns bars in order, as a new list.
func inOrder(list ...impl.Bar) []impl.Bar {
	sorted := slices.Clone(list)
	slices.SortFunc(sorted, func(a, b impl.Bar) int { return int(plainPlace(a) - plainPlace(b)) })
	return sorted
}

// barsOfPieces returns the bars of pieces, in order.
func barsOfPieces(pieces []piece) []impl.Bar {
	var list []impl.Bar
	for _, a := range pieces {
		list = append(list, impl.Bar(a))
	}
	return inOrder(list...)
}

// piecesOf returns the pieces of bars.
func piecesOf(list []impl.Bar) []piece {
	var pieces []piece
	for _, b := range list {
		pieces = append(pieces, piece(b))
	}
	return pieces
}

// isPlainBar reports whether all numbers of a bar are in their ranges.
func isPlainBar(b impl.Bar) bool {
	if b.Degree < 0 || b.Degree > 5 || b.Birth < 0 || b.Birth > 5 {
		return false
	}
	return b.Death == -1 || b.Birth <= b.Death && b.Death <= 5
}

// arePlainBars reports whether a list is one of at most 24 bars in order.
func arePlainBars(list []impl.Bar) bool {
	for i, b := range list {
		if !isPlainBar(b) || i > 0 && plainPlace(list[i-1]) > plainPlace(b) {
			return false
		}
	}
	return len(list) <= 24
}

// allBars lists all bars, each one once, in order.
func allBars() []impl.Bar {
	var list []impl.Bar
	for n := range int64(6) {
		for b := range int64(6) {
			for _, d := range []int64{0, 1, 2, 3, 4, 5, -1} {
				if isPlainBar(bar(n, b, d)) {
					list = append(list, bar(n, b, d))
				}
			}
		}
	}
	return list
}

// randomBars returns bars that a complex of a top has pieces of, in order.
func randomBars(g *numbers, top int64, count int64) []impl.Bar {
	var list []impl.Bar
	for range count {
		b := bar(g.below(top+1), g.below(6), -1)
		if b.Degree < top && g.below(3) > 0 {
			b.Death = b.Birth + g.below(6-b.Birth)
		}
		list = append(list, b)
		if g.below(4) == 0 && int64(len(list)) < count {
			list = append(list, b)
		}
		if int64(len(list)) == count {
			break
		}
	}
	return inOrder(list...)
}

// barLists lists bars of all tops, few and many, such as all last, and such as none lasts.
func barLists(each int) [][]impl.Bar {
	g := &numbers{state: 121}
	list := [][]impl.Bar{nil, {}}
	for top := range int64(6) {
		for range each {
			mixed := randomBars(g, top, g.below(16))
			lasting, ending := slices.Clone(mixed), slices.Clone(mixed)
			for i := range mixed {
				lasting[i].Death = -1
				if mixed[i].Degree > 0 {
					ending[i].Degree--
				}
				ending[i].Death = ending[i].Birth + g.below(6-ending[i].Birth)
			}
			list = append(list, mixed, inOrder(lasting...), inOrder(ending...), randomBars(g, top, impl.MaxBars))
		}
	}
	for _, b := range []impl.Bar{bar(0, 0, 0), bar(0, 0, 5), bar(0, 5, 5), bar(0, 5, -1), bar(0, 0, -1), bar(5, 0, -1), bar(4, 5, 5), bar(4, 0, 5), bar(5, 5, 5), bar(2, 1, 3)} {
		list = append(list, []impl.Bar{b}, slices.Repeat([]impl.Bar{b}, 2), slices.Repeat([]impl.Bar{b}, 8), slices.Repeat([]impl.Bar{b}, impl.MaxBars))
	}
	return list
}

// leastPlainTop returns the least top of a complex with the pieces of bars.
func leastPlainTop(list []impl.Bar) int64 {
	top := int64(0)
	for _, b := range list {
		if b.Death < 0 {
			top = max(top, b.Degree)
		} else {
			top = max(top, b.Degree+1)
		}
	}
	return top
}

// vectorOfBar is a basis vector of a complex of bars: the bar's place in the list, and whether it is the
// one that leads to the other.
type vectorOfBar struct {
	place int
	above bool
}

// plainComplexOfBars returns the complex of bars, with the numbers of its differentials told by the
// bars of their rows and columns.
func plainComplexOfBars(p int64, top int64, list []impl.Bar) impl.Filtered {
	x := impl.Filtered{Complex: impl.Complex{Prime: p}}
	bases := make([][]vectorOfBar, top+1)
	for n := range bases {
		var levels []int64
		for place, b := range list {
			if b.Degree == int64(n) {
				bases[n], levels = append(bases[n], vectorOfBar{place, false}), append(levels, b.Birth)
			}
		}
		for place, b := range list {
			if b.Degree == int64(n)-1 && b.Death >= 0 {
				bases[n], levels = append(bases[n], vectorOfBar{place, true}), append(levels, b.Death)
			}
		}
		x.Levels = append(x.Levels, levels)
		x.Complex.Dims = append(x.Complex.Dims, int64(len(levels)))
		if n > 0 {
			x.Complex.Maps = append(x.Complex.Maps, tableOf(bases[n], bases[n-1], func(from, to vectorOfBar) int64 {
				if from == (vectorOfBar{to.place, true}) && !to.above {
					return 1
				}
				return 0
			}))
		}
	}
	return x
}

// plainText returns the text of bars.
func plainText(list []impl.Bar) string {
	var parts []string
	for _, b := range list {
		text := fmt.Sprintf("%d:%d-", b.Degree, b.Birth)
		if b.Death >= 0 {
			text += fmt.Sprint(b.Death)
		}
		parts = append(parts, text)
	}
	return strings.Join(parts, ",")
}

// plainSpaces lists the cycles in F(q) of the degree n, and the boundaries of vectors of F(s).
func plainSpaces(x impl.Filtered, n int64, q int64, s int64) (cycles [][]int64, bounds [][]int64) {
	cycles = keep(allRows(x.Complex.Prime, x.Complex.Dims[n]), func(v []int64) bool {
		return levelBound(v, x.Levels[n], q) && isZeroRow(plainDifferential(x.Complex, n, v))
	})
	return cycles, plainDifferentials(x.Complex, n+1, plainApproximate(x, 0, n+1, s))
}

// plainBounds returns the dimension of the boundaries of vectors of F(s) in the degree n, 0 for the
// level -1.
func plainBounds(x impl.Filtered, n int64, s int64) int64 {
	if s < 0 {
		return 0
	}
	_, bounds := plainSpaces(x, n, s, s)
	return dimensionOf(x.Complex.Prime, len(setOf(bounds)))
}

// plainRankBetween returns the rank between q and s at n, 0 for the level -1.
func plainRankBetween(x impl.Filtered, n int64, q int64, s int64) int64 {
	if q < 0 {
		return 0
	}
	p := x.Complex.Prime
	cycles, bounds := plainSpaces(x, n, q, s)
	return dimensionOf(p, len(setOf(sumsOfVectors(p, cycles, bounds)))) - plainBounds(x, n, s)
}

// plainCounts counts the bars of a degree by their definition, with a function that tells the rank
// between two levels, and one that tells the dimension of the boundaries of vectors of a level.
func plainCounts(n int64, rank func(q, s int64) int64, bounds func(s int64) int64) []impl.Bar {
	var list []impl.Bar
	add := func(b impl.Bar, count int64) { list = append(list, slices.Repeat([]impl.Bar{b}, int(count))...) }
	longer := func(b, d int64) int64 { return rank(b, d-1) - rank(b, d) - rank(b-1, d-1) + rank(b-1, d) }
	for b := range int64(6) {
		short := bounds(b) - bounds(b-1)
		for earlier := range b {
			short -= longer(earlier, b)
		}
		add(bar(n, b, b), short)
		for d := b + 1; d <= 5; d++ {
			add(bar(n, b, d), longer(b, d))
		}
		add(bar(n, b, -1), rank(b, 5)-rank(b-1, 5))
	}
	return list
}

// plainBarsOf returns the bars of a small filtered complex, from all its vectors.
func plainBarsOf(x impl.Filtered) []impl.Bar {
	var list []impl.Bar
	for n := range int64(len(x.Levels)) {
		ranks, dimensions := map[[2]int64]int64{}, map[int64]int64{}
		for s := int64(-1); s <= 5; s++ {
			dimensions[s] = plainBounds(x, n, s)
			for q := int64(-1); q <= s; q++ {
				ranks[[2]int64{q, s}] = plainRankBetween(x, n, q, s)
			}
		}
		list = append(list, plainCounts(n, func(q, s int64) int64 { return ranks[[2]int64{q, s}] }, func(s int64) int64 { return dimensions[s] })...)
	}
	return inOrder(list...)
}

// barsOf returns the bars of a filtered complex.
func barsOf(t *testing.T, x impl.Filtered) []impl.Bar {
	t.Helper()
	list, code := impl.BarsOf(x)
	if code != impl.ErrNone {
		t.Fatalf("BarsOf(%v): code %d", x, code)
	}
	return list
}

// barsWith returns the bars with a text.
func barsWith(t *testing.T, text string) []impl.Bar {
	t.Helper()
	list, code := impl.ParseBars(text)
	if code != impl.ErrNone {
		t.Fatalf("ParseBars(%q): code %d", text, code)
	}
	return list
}

// barComplex returns the complex of bars.
func barComplex(t *testing.T, p int64, top int64, list []impl.Bar) impl.Filtered {
	t.Helper()
	x, code := impl.ComplexOfBars(p, top, list)
	if code != impl.ErrNone {
		t.Fatalf("ComplexOfBars(%d, %d, %v): code %d", p, top, list, code)
	}
	return x
}

// isTooWide reports whether a complex has a dimension that is too great.
func isTooWide(x impl.Filtered) bool { return slices.Max(x.Complex.Dims) > impl.MaxDim }
