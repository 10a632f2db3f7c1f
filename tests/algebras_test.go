package tests

import (
	"fmt"
	"slices"

	"loop.example/g01273/impl"
)

// The functions of this file make differential graded algebras of which much is known, and find their
// conditions, products, differentials, complexes and tensor products in the plainest way.

// product tells that the product of e(i) and e(j) has a number times e(k).
type product struct{ i, j, k, number int64 }

// step tells that the differential of e(i) has a number times e(k).
type step struct{ i, k, number int64 }

// sample is an algebra of which the homology numbers are known, and whether it is graded commutative.
type sample struct {
	impl.Dga
	name     string
	commutes bool
	holes    []int64
}

// modulo returns the rest of a number, which may be less than 0, as a byte.
func modulo(p int64, number int64) byte {
	if number %= p; number < 0 {
		number += p
	}
	return byte(number)
}

// algebraOf returns an algebra with the told products and those with the unit e(0), and with the told
// differentials.
func algebraOf(p int64, degrees []int64, levels []int64, products []product, steps ...step) impl.Dga {
	a := impl.Dga{Prime: p, Size: int64(len(degrees))}
	copy(a.Degrees[:], degrees)
	copy(a.Levels[:], levels)
	for i := range degrees {
		a.Table[0][i][i], a.Table[i][0][i] = 1, 1
	}
	for _, t := range products {
		a.Table[t.i][t.j][t.k] = modulo(p, t.number)
	}
	for _, s := range steps {
		a.Diff[s.i][s.k] = modulo(p, s.number)
	}
	return a
}

// powersOf returns the products of the powers of e(1), which are the basis elements up to the last one.
func powersOf(size int64) []product {
	var list []product
	for i := int64(1); i < size; i++ {
		for j := int64(1); i+j < size; j++ {
			list = append(list, product{i, j, i + j, 1})
		}
	}
	return list
}

// exteriorOf returns the algebra of the products of different generators, of which each square is 0. Two
// generators of odd degrees change places with the sign -1. A basis element is told by the bits of its
// generators, so these have to be such that the degrees ascend.
func exteriorOf(p int64, degrees []int64, levels []int64, steps ...step) impl.Dga {
	size := 1 << len(degrees)
	all, heights, products := make([]int64, size), make([]int64, size), []product{}
	for set := range size {
		for g := range degrees {
			if set>>g&1 == 1 {
				all[set] += degrees[g]
				heights[set] += levels[g]
			}
		}
		for other := range size {
			if set&other != 0 {
				continue
			}
			sign := int64(1)
			for g := range degrees {
				for h := range g {
					if set>>g&1 == 1 && other>>h&1 == 1 && degrees[g]*degrees[h]%2 == 1 {
						sign = -sign
					}
				}
			}
			products = append(products, product{int64(set), int64(other), int64(set | other), sign})
		}
	}
	return algebraOf(p, all, heights, products, steps...)
}

// namedByHand lists the algebras with names, number by number.
func namedByHand(p int64) []sample {
	torus := []product{{1, 2, 3, 1}, {2, 1, 3, -1}}
	disc := []product{{1, 2, 3, 1}, {2, 1, 3, 1}}
	return []sample{
		{algebraOf(p, []int64{0}, []int64{0}, nil), "point", true, []int64{1}},
		{algebraOf(p, []int64{0, 1}, []int64{0, 1}, nil), "circle", true, []int64{1, 1}},
		{algebraOf(p, []int64{0, 1, 1, 2}, []int64{0, 1, 1, 2}, torus), "torus", true, []int64{1, 2, 1}},
		{algebraOf(p, []int64{0, 0, 1, 1}, []int64{0, 1, 1, 2}, disc, step{2, 1, 1}), "disc", true, []int64{1, 1}},
	}
}

// otherSamples lists algebras without names: with and without homology, graded commutative or not, of
// one basis element and of MaxElements, of the greatest degrees and levels, with products of less than
// their levels, and with products that are boundaries.
func otherSamples(p int64) []sample {
	even := p == 2
	zeros, matrices := make([]int64, 8), []product{{1, 1, 1, 1}, {1, 2, 2, 1}, {3, 1, 3, 1}, {2, 3, 1, 1}, {3, 2, 0, 1}, {3, 2, 1, -1}}
	corner := []product{{1, 1, 1, 1}, {1, 2, 2, 1}}
	cornerPair := []product{{1, 1, 1, 1}, {1, 2, 2, 1}, {1, 3, 3, 1}}
	return []sample{
		{algebraOf(p, []int64{0, 1}, []int64{0, 3}, nil, step{1, 0, 1}), "the unit as a boundary", true, []int64{0, 0}},
		{algebraOf(p, []int64{0, 1, 2, 3, 4, 5}, []int64{0, 1, 2, 3, 4, 5}, powersOf(6), step{1, 0, -1}, step{3, 2, -1}, step{5, 4, -1}), "powers of a source of the unit", even, make([]int64, 6)},
		{algebraOf(p, []int64{0, 1, 2, 3}, []int64{0, 1, 1, 2}, powersOf(4)), "powers of the degree 1", even, []int64{1, 1, 1, 1}},
		{algebraOf(p, []int64{0, 2, 4}, []int64{0, 2, 3}, powersOf(3)), "powers of the degree 2", true, []int64{1, 0, 1, 0, 1}},
		{algebraOf(p, []int64{0, 0, 0, 0, 0, 0, 0, 0}, []int64{0, 1, 1, 2, 2, 3, 3, 4}, powersOf(8)), "powers of the degree 0", true, []int64{8}},
		{algebraOf(p, []int64{0, 0}, []int64{0, 2}, []product{{1, 1, 0, 1}}), "a group of two", true, []int64{2}},
		{algebraOf(p, []int64{0, 0, 2}, []int64{0, 1, 4}, corner), "a corner", false, []int64{2, 0, 1}},
		{algebraOf(p, []int64{0, 0, 0, 1}, []int64{0, 0, 1, 3}, cornerPair, step{3, 2, 1}), "a corner that is filled", false, []int64{2, 0}},
		{algebraOf(p, []int64{0, 0, 0, 0}, []int64{0, 0, 2, 3}, matrices), "matrices", false, []int64{4}},
		{algebraOf(p, []int64{0, 5}, []int64{0, 5}, nil), "a sphere", true, []int64{1, 0, 0, 0, 0, 1}},
		{algebraOf(p, zeros, []int64{0, 5, 4, 3, 2, 1, 0, 5}, nil), "eight of the degree 0", true, []int64{8}},
		{algebraOf(p, []int64{0, 1, 1, 2}, []int64{0, 2, 3, 1}, []product{{1, 2, 3, 1}, {2, 1, 3, -1}}), "a torus with a low product", true, []int64{1, 2, 1}},
		{exteriorOf(p, []int64{1, 1, 3}, []int64{1, 0, 3}, step{4, 3, 1}), "a product that is filled", true, []int64{1, 2, 0, 0, 2, 1}},
		{exteriorOf(p, []int64{1, 1, 3}, []int64{0, 2, 2}, step{4, 3, -1}), "a product that is filled at once", true, []int64{1, 2, 0, 0, 2, 1}},
		{algebraOf(p, []int64{0, 1, 1, 2, 2, 3}, []int64{0, 1, 1, 2, 2, 3}, []product{{1, 2, 4, 1}, {2, 1, 4, -1}}, step{5, 4, 1}), "a hole beside a product that is filled", true, []int64{1, 2, 1, 0}},
		{exteriorOf(p, []int64{0, 0, 0}, []int64{1, 1, 3}), "three squares that are 0", true, []int64{8}},
	}
}

// samples lists the algebras of both lists.
func samples(p int64) []sample { return append(namedByHand(p), otherSamples(p)...) }

// sampleOf returns the sample with a name.
func sampleOf(p int64, name string) sample {
	list := samples(p)
	return list[slices.IndexFunc(list, func(s sample) bool { return s.name == name })]
}

// squareZero returns the algebra of the unit and of the basis vectors of a filtered complex, of which all
// products but those with the unit are 0.
func squareZero(x impl.Filtered, holes []int64) sample {
	degrees, levels, start := []int64{0}, []int64{0}, []int64{}
	for n, list := range x.Levels {
		start = append(start, int64(len(degrees)))
		for _, level := range list {
			degrees, levels = append(degrees, int64(n)), append(levels, level)
		}
	}
	var steps []step
	for k, table := range x.Complex.Maps {
		for i, row := range table {
			for j, number := range row {
				steps = append(steps, step{start[k+1] + int64(i), start[k] + int64(j), number})
			}
		}
	}
	top := degrees[len(degrees)-1]
	all := slices.Clone(holes[:top+1])
	all[0]++
	return sample{algebraOf(x.Complex.Prime, degrees, levels, nil, steps...), fmt.Sprint("the unit and ", x), true, all}
}

// squareZeros lists algebras of the unit and of known filtered complexes of at most seven vectors.
func squareZeros(each int) []sample {
	g := &numbers{state: 131}
	var list []sample
	for _, p := range usualPrimes {
		for top := range int64(impl.MaxTop + 1) {
			for range each {
				pieces := randomPieces(g, top)
				for len(pieces) > 4 || len(barsOfPieces(pieces)) == 0 {
					pieces = randomPieces(g, top)
				}
				k := filteredOf(g, p, top, pieces)
				if sumOf(k.Complex.Dims) < impl.MaxElements {
					list = append(list, squareZero(k.Filtered, holesByRanks(k.Complex)))
				}
			}
		}
	}
	return list
}

// add adds a factor times v to u modulo p.
func add(p int64, u impl.Element, factor int64, v impl.Element) impl.Element {
	for k := range u {
		u[k] = modulo(p, int64(u[k])+factor*int64(v[k]))
	}
	return u
}

// rebased returns an algebra with a factor times e(j) added to e(i): what had a number of the old e(i) has
// it of the new one, and that number times the factor less of e(j).
func rebased(a impl.Dga, i int, j int, factor int64) impl.Dga {
	b := a
	b.Diff[i] = add(a.Prime, b.Diff[i], factor, b.Diff[j])
	for k := range a.Size {
		b.Table[i][k] = add(a.Prime, b.Table[i][k], factor, b.Table[j][k])
	}
	for k := range a.Size {
		b.Table[k][i] = add(a.Prime, b.Table[k][i], factor, b.Table[k][j])
	}
	tell := func(u *impl.Element) { u[j] = modulo(a.Prime, int64(u[j])-factor*int64(u[i])) }
	for k := range a.Size {
		tell(&b.Diff[k])
		for l := range a.Size {
			tell(&b.Table[k][l])
		}
	}
	return b
}

// mixedDga changes the basis so that the spaces of all degrees and levels stay the same, and with them the
// unit.
func mixedDga(g *numbers, a impl.Dga, steps int) impl.Dga {
	for range steps {
		i, j := int(g.below(a.Size)), int(g.below(a.Size))
		if i != 0 && i != j && a.Degrees[i] == a.Degrees[j] && a.Levels[j] <= a.Levels[i] {
			a = rebased(a, i, j, g.below(a.Prime))
		}
	}
	return a
}

// mixedSamples lists algebras with changed bases.
func mixedSamples(p int64) []sample {
	g := &numbers{state: uint64(132 + p)}
	var list []sample
	for _, s := range samples(p) {
		mixed := sample{mixedDga(g, s.Dga, 60), s.name + " of another basis", s.commutes, s.holes}
		if mixed.Dga != s.Dga {
			list = append(list, mixed)
		}
	}
	return list
}

// allSamples lists the algebras of all primes, with their own bases and with changed ones.
func allSamples(each int) []sample {
	list := squareZeros(each)
	for _, p := range usualPrimes {
		list = append(list, slices.Concat(samples(p), mixedSamples(p))...)
	}
	return list
}

// String names a sample.
func (s sample) String() string { return fmt.Sprintf("%s modulo %d", s.name, s.Prime) }

// plainMultiply returns the product of u and v as a plain sum.
func plainMultiply(a impl.Dga, u impl.Element, v impl.Element) impl.Element {
	var sums [8]int64
	for i, left := range u {
		for j, right := range v {
			for k, number := range a.Table[i][j] {
				sums[k] += int64(left) * int64(right) * int64(number)
			}
		}
	}
	return elementOf(a.Prime, sums[:])
}

// plainDiff returns the differential of u as a plain sum.
func plainDiff(a impl.Dga, u impl.Element) impl.Element {
	var sums [8]int64
	for i, factor := range u {
		for k, number := range a.Diff[i] {
			sums[k] += int64(factor) * int64(number)
		}
	}
	return elementOf(a.Prime, sums[:])
}

// elementOf returns the rests of at most eight numbers as an element.
func elementOf(p int64, list []int64) impl.Element {
	var u impl.Element
	for k, number := range list {
		u[k] = modulo(p, number)
	}
	return u
}

// unitAt returns e(k).
func unitAt(k int64) impl.Element {
	var u impl.Element
	u[k] = 1
	return u
}

// randomElement returns an element of a.
func randomElement(g *numbers, a impl.Dga) impl.Element {
	return elementOf(a.Prime, g.row(a.Prime, a.Size))
}

// allElements lists all elements of a.
func allElements(a impl.Dga) []impl.Element {
	var list []impl.Element
	for _, row := range allRows(a.Prime, a.Size) {
		list = append(list, elementOf(a.Prime, row))
	}
	return list
}

// condition is one of the conditions of differential graded algebras. It is asked of what has a Size in
// 1..MaxElements and a Prime of at least 2.
type condition struct {
	name  string
	holds func(a impl.Dga) bool
}

// forAll reports whether something holds for all numbers less than a size.
func forAll(size int64, holds func(i int64) bool) bool {
	for i := range size {
		if !holds(i) {
			return false
		}
	}
	return true
}

// forAllPairs reports whether something holds for all pairs of basis elements.
func forAllPairs(a impl.Dga, holds func(i, j int64) bool) bool {
	return forAll(a.Size, func(i int64) bool {
		return forAll(a.Size, func(j int64) bool { return holds(i, j) })
	})
}

// gradeConditions are those of degrees, levels and numbers.
func gradeConditions() []condition {
	degreesOf := func(a impl.Dga) []int64 { return a.Degrees[:a.Size] }
	return []condition{
		{"prime", func(a impl.Dga) bool { return slices.Contains(usualPrimes, a.Prime) }},
		{"degrees", func(a impl.Dga) bool { return slices.Min(degreesOf(a)) >= 0 && slices.Max(degreesOf(a)) <= impl.MaxTop }},
		{"order", func(a impl.Dga) bool {
			return forAll(a.Size-1, func(i int64) bool { return a.Degrees[i] <= a.Degrees[i+1] })
		}},
		{"levels", func(a impl.Dga) bool {
			return forAll(a.Size, func(i int64) bool { return a.Levels[i] >= 0 && a.Levels[i] <= impl.MaxLevel })
		}},
		{"first degree", func(a impl.Dga) bool { return a.Degrees[0] == 0 }},
		{"first level", func(a impl.Dga) bool { return a.Levels[0] == 0 }},
		{"numbers of differentials", func(a impl.Dga) bool {
			return forAllPairs(a, func(i, k int64) bool { return int64(a.Diff[i][k]) < a.Prime })
		}},
		{"numbers of products", func(a impl.Dga) bool {
			return forAllPairs(a, func(i, j int64) bool {
				return forAll(a.Size, func(k int64) bool { return int64(a.Table[i][j][k]) < a.Prime })
			})
		}},
		{"degrees behind", func(a impl.Dga) bool { return isZeroRow(a.Degrees[a.Size:]) }},
		{"levels behind", func(a impl.Dga) bool { return isZeroRow(a.Levels[a.Size:]) }},
		{"differentials behind", func(a impl.Dga) bool {
			return forAll(64, func(at int64) bool { return max(at/8, at%8) < a.Size || a.Diff[at/8][at%8] == 0 })
		}},
		{"products behind", func(a impl.Dga) bool {
			return forAll(512, func(at int64) bool {
				i, j, k := at/64, at/8%8, at%8
				return max(i, j, k) < a.Size || a.Table[i][j][k] == 0
			})
		}},
	}
}

// tableConditions are those of places of numbers in differentials and products, and of the laws.
func tableConditions() []condition {
	differentials := func(holds func(a impl.Dga, i, k int64) bool) func(impl.Dga) bool {
		return func(a impl.Dga) bool {
			return forAllPairs(a, func(i, k int64) bool { return a.Diff[i][k] == 0 || holds(a, i, k) })
		}
	}
	products := func(holds func(a impl.Dga, i, j, k int64) bool) func(impl.Dga) bool {
		return func(a impl.Dga) bool {
			return forAllPairs(a, func(i, j int64) bool {
				return forAll(a.Size, func(k int64) bool { return a.Table[i][j][k] == 0 || holds(a, i, j, k) })
			})
		}
	}
	rest := func(a impl.Dga, u impl.Element) impl.Element { return add(a.Prime, impl.Element{}, 1, u) }
	return []condition{
		{"degrees of differentials", differentials(func(a impl.Dga, i, k int64) bool { return a.Degrees[k]+1 == a.Degrees[i] })},
		{"levels of differentials", differentials(func(a impl.Dga, i, k int64) bool { return a.Levels[k] <= a.Levels[i] })},
		{"degrees of products", products(func(a impl.Dga, i, j, k int64) bool { return a.Degrees[k] == a.Degrees[i]+a.Degrees[j] })},
		{"levels of products", products(func(a impl.Dga, i, j, k int64) bool { return a.Levels[k] <= a.Levels[i]+a.Levels[j] })},
		{"left unit", func(a impl.Dga) bool {
			return forAll(a.Size, func(i int64) bool { return rest(a, a.Table[0][i]) == unitAt(i) })
		}},
		{"right unit", func(a impl.Dga) bool {
			return forAll(a.Size, func(i int64) bool { return rest(a, a.Table[i][0]) == unitAt(i) })
		}},
		{"associative", func(a impl.Dga) bool {
			return forAllPairs(a, func(i, j int64) bool {
				return forAll(a.Size, func(k int64) bool {
					return plainMultiply(a, a.Table[i][j], unitAt(k)) == plainMultiply(a, unitAt(i), a.Table[j][k])
				})
			})
		}},
		{"differential twice", func(a impl.Dga) bool {
			return forAll(a.Size, func(i int64) bool { return plainDiff(a, a.Diff[i]) == impl.Element{} })
		}},
		{"rule", func(a impl.Dga) bool {
			return forAllPairs(a, func(i, j int64) bool {
				second := plainMultiply(a, unitAt(i), a.Diff[j])
				if a.Degrees[i]%2 != 0 {
					second = add(a.Prime, impl.Element{}, -1, second)
				}
				return plainDiff(a, a.Table[i][j]) == add(a.Prime, plainMultiply(a, a.Diff[i], unitAt(j)), 1, second)
			})
		}},
	}
}

// inside returns an algebra with 0 for all numbers of tables behind the Size.
func inside(a impl.Dga) impl.Dga {
	for at := range int64(512) {
		if i, j, k := at/64, at/8%8, at%8; max(i, j, k) >= a.Size {
			a.Table[i][j][k] = 0
		}
		if i, k := at/8%8, at%8; max(i, k) >= a.Size {
			a.Diff[i][k] = 0
		}
	}
	return a
}

// brokenConditions lists the names of the conditions that do not hold. The laws are asked of the numbers that
// are not behind the Size.
func brokenConditions(a impl.Dga) []string {
	if a.Size < 1 || a.Size > impl.MaxElements {
		return []string{"size"}
	}
	if a.Prime < 2 {
		return []string{"prime"}
	}
	var broken []string
	for _, c := range gradeConditions() {
		if !c.holds(a) {
			broken = append(broken, c.name)
		}
	}
	within := inside(a)
	for _, c := range tableConditions() {
		if !c.holds(within) {
			broken = append(broken, c.name)
		}
	}
	return broken
}

// plainIsDga reports whether all conditions hold. Those that are found fast come first.
func plainIsDga(a impl.Dga) bool {
	if a.Size < 1 || a.Size > impl.MaxElements || a.Prime < 2 {
		return false
	}
	return !slices.ContainsFunc(append(gradeConditions(), tableConditions()...), func(c condition) bool { return !c.holds(a) })
}

// plainCommutes reports whether v u is (-1)^(i j) u v for all basis elements.
func plainCommutes(a impl.Dga) bool {
	return forAllPairs(a, func(i, j int64) bool {
		sign := 1 - 2*(a.Degrees[i]*a.Degrees[j]%2)
		return a.Table[j][i] == add(a.Prime, impl.Element{}, sign, a.Table[i][j])
	})
}

// placesAt lists the numbers of the basis elements of a degree.
func placesAt(a impl.Dga, n int64) []int64 {
	var places []int64
	for i := range a.Size {
		if a.Degrees[i] == n {
			places = append(places, i)
		}
	}
	return places
}

// rowAt returns the numbers of u at the basis elements of a degree.
func rowAt(a impl.Dga, u impl.Element, n int64) []int64 {
	row := []int64{}
	for _, k := range placesAt(a, n) {
		row = append(row, int64(u[k]))
	}
	return row
}

// elementWith returns the element with a vector of a degree, and 0 in all others.
func elementWith(a impl.Dga, v []int64, n int64) impl.Element {
	var u impl.Element
	for at, k := range placesAt(a, n) {
		u[k] = byte(v[at])
	}
	return u
}

// plainFiltered returns the filtered complex of a.
func plainFiltered(a impl.Dga) impl.Filtered {
	x := impl.Filtered{Complex: impl.Complex{Prime: a.Prime}}
	for n := range slices.Max(a.Degrees[:]) + 1 {
		places, levels := placesAt(a, n), []int64{}
		for _, i := range places {
			levels = append(levels, a.Levels[i])
		}
		x.Complex.Dims = append(x.Complex.Dims, int64(len(places)))
		x.Levels = append(x.Levels, levels)
		if n > 0 {
			x.Complex.Maps = append(x.Complex.Maps, tableOf(places, placesAt(a, n-1), func(i, k int64) int64 { return int64(a.Diff[i][k]) }))
		}
	}
	return x
}

// hasTensorDga reports whether the tensor product keeps to the limits.
func hasTensorDga(a impl.Dga, b impl.Dga) bool {
	return a.Size*b.Size <= impl.MaxElements && slices.Max(a.Degrees[:])+slices.Max(b.Degrees[:]) <= impl.MaxTop &&
		slices.Max(a.Levels[:])+slices.Max(b.Levels[:]) <= impl.MaxLevel
}

// pairsInOrder lists the pairs of basis elements, degree by degree.
func pairsInOrder(a impl.Dga, b impl.Dga) [][2]int64 {
	var list [][2]int64
	for n := range int64(2*impl.MaxTop + 1) {
		for i := range a.Size {
			for j := range b.Size {
				if a.Degrees[i]+b.Degrees[j] == n {
					list = append(list, [2]int64{i, j})
				}
			}
		}
	}
	return list
}

// plainTensorDga returns the tensor product of algebras, number by number.
func plainTensorDga(a impl.Dga, b impl.Dga) impl.Dga {
	p, pairs := a.Prime, pairsInOrder(a, b)
	out := impl.Dga{Prime: p, Size: int64(len(pairs))}
	for k, from := range pairs {
		i, j := from[0], from[1]
		out.Degrees[k], out.Levels[k] = a.Degrees[i]+b.Degrees[j], a.Levels[i]+b.Levels[j]
		for l, to := range pairs {
			switch {
			case to[1] == j:
				out.Diff[k][l] = a.Diff[i][to[0]]
			case to[0] == i:
				out.Diff[k][l] = byte(withSign(p, a.Degrees[i], int64(b.Diff[j][to[1]])))
			}
			for m, result := range pairs {
				number := int64(a.Table[i][to[0]][result[0]]) * int64(b.Table[j][to[1]][result[1]]) % p
				out.Table[k][l][m] = byte(withSign(p, b.Degrees[j]*a.Degrees[to[0]], number))
			}
		}
	}
	return out
}
