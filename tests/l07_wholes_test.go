package tests

import (
	"fmt"
	"math"
	"slices"
	"testing"

	"loop.example/g01273/impl"
)

// plainWholeSquare reports whether the differential of each differential is 0.
func plainWholeSquare(x impl.Whole) bool {
	for n := 1; n < len(x.Maps); n++ {
		for _, row := range x.Maps[n] {
			for j := range x.Dims[n-1] {
				sum := int64(0)
				for i, number := range row {
					sum += number * x.Maps[n-1][i][j]
				}
				if sum != 0 {
					return false
				}
			}
		}
	}
	return true
}

// plainWholeHomology returns the homology by eliminations.
func plainWholeHomology(x impl.Whole) []impl.Torsion {
	var list []impl.Torsion
	for n, dim := range x.Dims {
		group := impl.Torsion{Free: dim}
		if n > 0 {
			group.Free -= int64(plainRankOf(x.Maps[n-1]))
		}
		if n < len(x.Maps) {
			smith := smithByElimination(x.Maps[n])
			group.Free -= int64(len(smith))
			group.Parts = slices.DeleteFunc(smith, func(number int64) bool { return number == 1 })
		}
		list = append(list, group)
	}
	return list
}

// expectGroups checks the homology of a whole complex, the torsion orders and the exponents.
func expectGroups(t *testing.T, name string, want []impl.Torsion, x impl.Whole) {
	t.Helper()
	expectResults(t, "WholeHomology "+name, all(want, 0), all(impl.WholeHomology(x)))
	var orders, exponents []int64
	for _, group := range want {
		order, exponent := int64(1), int64(1)
		for _, part := range group.Parts {
			order *= part
			exponent = part
		}
		orders, exponents = append(orders, order), append(exponents, exponent)
	}
	expectResults(t, "TorsionOrders "+name, all(orders, 0), all(impl.TorsionOrders(x)))
	expectResults(t, "TorsionExponents "+name, all(exponents, 0), all(impl.TorsionExponents(x)))
}

// expectDual checks the dual: its lists, that it undoes itself, and that it has the same free parts in the
// reverse order, and the torsion moved by one degree.
func expectDual(t *testing.T, name string, groups []impl.Torsion, x impl.Whole) {
	t.Helper()
	top := len(x.Dims) - 1
	want := impl.Whole{}
	moved := make([]impl.Torsion, top+1)
	for n := range x.Dims {
		want.Dims = append(want.Dims, x.Dims[top-n])
		moved[n].Free = groups[top-n].Free
		if n < top {
			want.Maps = append(want.Maps, turned(x.Maps[top-1-n], x.Dims[top-1-n]))
			moved[n].Parts = groups[top-1-n].Parts
		}
	}
	dual, code := impl.DualWhole(x)
	expectResults(t, "DualWhole "+name, all(want, 0), all(dual, code))
	if !impl.IsWhole(dual) {
		t.Errorf("DualWhole %s = %v is no whole complex", name, dual)
	}
	expectGroups(t, "of the dual of "+name, moved, dual)
	expectResults(t, "dual of the dual of "+name, all(x, 0), all(impl.DualWhole(dual)))
}

// expectWhole checks all that is told of a whole complex but for its reductions.
func expectWhole(t *testing.T, name string, groups []impl.Torsion, x impl.Whole) {
	t.Helper()
	if !impl.IsWhole(x) {
		t.Errorf("IsWhole %s = false", name)
	}
	expectGroups(t, name, groups, x)
	expectDual(t, name, groups, x)
}

func TestWholesByHand(t *testing.T) {
	// a plane with its line at infinity: one cell of each degree, the disc led twice around the circle
	plane := impl.Whole{Dims: []int64{1, 1, 1}, Maps: tables{{{0}}, {{2}}}}
	expectWhole(t, "projective plane", []impl.Torsion{{Free: 1}, {Parts: []int64{2}}, {}}, plane)
	bottle := impl.Whole{Dims: []int64{1, 2, 1}, Maps: tables{{{0}, {0}}, {{0, 2}}}}
	expectWhole(t, "bottle", []impl.Torsion{{Free: 1}, {Free: 1, Parts: []int64{2}}, {}}, bottle)
	sum := impl.Whole{Dims: []int64{2, 3}, Maps: tables{{{2, 4}, {6, 8}, {0, 0}}}}
	expectWhole(t, "two parts", []impl.Torsion{{Parts: []int64{2, 4}}, {Free: 1}}, sum)
	mixed := impl.Whole{Dims: []int64{3, 2}, Maps: tables{{{4, 0, 0}, {0, 6, 0}}}}
	expectWhole(t, "parts of 4 and 6", []impl.Torsion{{Free: 1, Parts: []int64{2, 12}}, {}}, mixed)
	units := impl.Whole{Dims: []int64{2, 2}, Maps: tables{{{1, 0}, {0, -1}}}}
	expectWhole(t, "units", []impl.Torsion{{}, {}}, units)
	y := impl.Whole{Dims: []int64{1, 2}, Maps: tables{{{2}, {0}}}}
	expectResults(t, "DualWhole", all(impl.Whole{Dims: []int64{2, 1}, Maps: tables{{{2, 0}}}}, 0), all(impl.DualWhole(y)))
	triangle := impl.Whole{Dims: []int64{3, 3, 1}, Maps: tables{{{-1, 1, 0}, {-1, 0, 1}, {0, -1, 1}}, {{1, -1, 1}}}}
	expectWhole(t, "triangle", []impl.Torsion{{Free: 1}, {}, {}}, triangle)
}

// TestTorsionOfUnits has torsion that no single number shows: four points, each one led to minus the
// next one, with a sign more or not.
func TestTorsionOfUnits(t *testing.T) {
	rows := [][]int64{{1, 1, 0, 0}, {0, 1, 1, 0}, {0, 0, 1, 1}, {-1, 0, 0, 1}}
	expectWhole(t, "with a sign more", []impl.Torsion{{Parts: []int64{2}}, {}}, twoTerms(rows, 4))
	rows[3][0] = 1
	expectWhole(t, "without", []impl.Torsion{{Free: 1}, {Free: 1}}, twoTerms(rows, 4))
}

func TestKnownWholes(t *testing.T) {
	mixedParts, great := 0, int64(0)
	for _, k := range knownWholes(40) {
		if !k.fits() || !plainWholeSquare(k.Whole) {
			t.Fatalf("%s is no whole complex", k.name())
		}
		expectWhole(t, k.name(), k.homology(), k.Whole)
		for n := range k.Free {
			if len(k.parts(n)) > 1 {
				mixedParts++
			}
			for _, order := range k.Orders[n] {
				great = max(great, order)
			}
		}
	}
	if mixedParts < 100 || great < 500 {
		t.Errorf("%d homologies of more than one part, the greatest order %d", mixedParts, great)
	}
}

// TestSmallWholes has all differentials of some numbers, those of whole complexes and others.
func TestSmallWholes(t *testing.T) {
	some := []int64{-2, 0, 3, 1}
	good, bad := 0, 0
	for _, dims := range [][]int64{{1, 1, 1}, {1, 2, 1}, {2, 1, 2}, {1, 2, 1, 1}, {2, 2, 1}, {0, 1, 2}, {2, 1, 0}, {1, 0, 1}} {
		count := int64(0)
		for n := 1; n < len(dims); n++ {
			count += dims[n] * dims[n-1]
		}
		for _, places := range allRows(int64(len(some)), count) {
			x := impl.Whole{Dims: dims}
			for n := 1; n < len(dims); n++ {
				table := zeros(dims[n], dims[n-1])
				for _, row := range table {
					for j := range row {
						row[j], places = some[places[0]], places[1:]
					}
				}
				x.Maps = append(x.Maps, table)
			}
			if plainWholeSquare(x) {
				good++
				expectWhole(t, fmt.Sprint(x), plainWholeHomology(x), x)
				continue
			}
			bad++
			if impl.IsWhole(x) {
				t.Errorf("IsWhole(%v) = true", x)
			}
			expectCode(t, fmt.Sprint("WholeHomology ", x), impl.ErrInvalid, all(impl.WholeHomology(x)))
		}
	}
	if good < 500 || bad < 500 {
		t.Errorf("%d whole complexes, %d others", good, bad)
	}
}

// TestSquaresOfWholeNumbers has differentials of differentials of all sizes: such as are 0 by one step of
// many, and such as are 0 modulo primes only.
func TestSquaresOfWholeNumbers(t *testing.T) {
	g := &numbers{state: 94}
	seen := map[int64]bool{}
	for range 4000 {
		row, column := g.matrix(1, impl.MaxWide, impl.MaxWhole), g.matrix(impl.MaxWide, 1, impl.MaxWhole)
		x := impl.Whole{Dims: []int64{1, impl.MaxWide, 1}, Maps: tables{column, row}}
		square := int64(0)
		for i, number := range row[0] {
			square += number * column[i][0]
		}
		seen[square] = true
		if impl.IsWhole(x) != (square == 0) {
			t.Errorf("IsWhole(%v) with the square %d", x, square)
		}
	}
	for _, c := range []struct {
		column []int64
		want   bool
	}{
		{[]int64{9, 9, 9, 9, 9, 9}, false}, {[]int64{-9, -9, -9, -9, -9, -9}, false}, {[]int64{9, 9, 9, -9, -9, -9}, true}, {[]int64{9, -9, 9, -9, 9, -9}, true},
		{[]int64{9, 9, 9, 9, 9, 8}, false}, {[]int64{9, 9, 9, -9, -9, -8}, false}, {[]int64{9, 9, -9, -9, 0, 0}, true}, {[]int64{0, 0, 0, 0, 0, 1}, false},
	} {
		x := impl.Whole{Dims: []int64{1, 6, 1}, Maps: tables{turned([][]int64{c.column}, 6), {{9, 9, 9, 9, 9, 9}}}}
		if impl.IsWhole(x) != c.want {
			t.Errorf("IsWhole(%v) = %t", x, !c.want)
		}
	}
	if !seen[0] || len(seen) < 300 {
		t.Errorf("%d squares", len(seen))
	}
}

// TestWholesAtTheirLimits has dimensions of 0, MaxWide and one more, and tops of 0, MaxTop and one more.
func TestWholesAtTheirLimits(t *testing.T) {
	for length := range impl.MaxTop + 3 {
		for _, dims := range [][]int64{{0}, {impl.MaxWide}, {impl.MaxWide + 1}, {0, impl.MaxWide}, {impl.MaxWide, 0, 1}, {impl.MaxWide, impl.MaxWide + 1}} {
			x := impl.Whole{}
			for n := range length {
				x.Dims = append(x.Dims, dims[n%len(dims)])
				if n > 0 {
					x.Maps = append(x.Maps, zeros(x.Dims[n], x.Dims[n-1]))
				}
			}
			if length == 0 || length > impl.MaxTop+1 || slices.Max(x.Dims) > impl.MaxWide {
				expectNoWhole(t, x)
				continue
			}
			var groups []impl.Torsion
			for _, dim := range x.Dims {
				groups = append(groups, impl.Torsion{Free: dim})
			}
			expectWhole(t, fmt.Sprint(x), groups, x)
		}
	}
}

// expectNoWhole checks that all functions on whole complexes refuse one, with any other arguments.
func expectNoWhole(t *testing.T, x impl.Whole) {
	t.Helper()
	if impl.IsWhole(x) {
		t.Errorf("IsWhole(%v) = true", x)
	}
	for _, number := range []int64{0, 2, math.MinInt64} {
		for _, call := range callsWith7(given7{x: x, p: number, r: number}) {
			if takesAll(call.takes, "x") {
				expectCode(t, fmt.Sprintf("%s(%v) with %d", call.name, x, number), impl.ErrInvalid, call.run())
			}
		}
	}
}

// TestGreatTorsion has the greatest torsion order, and parts that are as great.
func TestGreatTorsion(t *testing.T) {
	expectWhole(t, "greatest", []impl.Torsion{{Parts: []int64{9, 18, 18, 18, 18, 90}}, {}}, twoTerms(greatestMatrix(6), 6))
	expectResults(t, "TorsionOrders", all([]int64{85030560, 1}, 0), all(impl.TorsionOrders(twoTerms(greatestMatrix(6), 6))))
	for _, c := range greatTorsions() {
		expectWhole(t, "one part", []impl.Torsion{{Parts: []int64{c.order}}, {}}, twoTerms(c.rows, 6))
	}
	// in each degree but the last one, three times
	rows := greatestMatrix(6)
	x := impl.Whole{Dims: []int64{6, 6, 6, 6, 6, 6}, Maps: tables{rows, zeros(6, 6), rows, zeros(6, 6), rows}}
	parts := []int64{9, 18, 18, 18, 18, 90}
	expectWhole(t, "three times", []impl.Torsion{{Parts: parts}, {}, {Parts: parts}, {}, {Parts: parts}, {}}, x)
}

// TestChainsOfOneOrder has one cyclic group, of 9 to the powers 1 to 6, though no number is greater than 9.
func TestChainsOfOneOrder(t *testing.T) {
	order := int64(1)
	for length := 1; length <= impl.MaxWide; length++ {
		order *= 9
		k := wholeOf([]int64{0, 0}, chain{0, slices.Repeat([]int64{9}, length)})
		expectWhole(t, k.name(), []impl.Torsion{{Parts: []int64{order}}, {}}, k.Whole)
	}
}

func TestLensComplexes(t *testing.T) {
	for n := range int64(impl.MaxWhole + 1) {
		for k := range int64(impl.MaxTop + 1) {
			want := impl.Whole{}
			groups := make([]impl.Torsion, k+1)
			for degree := range k + 1 {
				want.Dims = append(want.Dims, 1)
				groups[degree].Free = 1
				if degree > 0 {
					want.Maps = append(want.Maps, [][]int64{{[]int64{n, 0}[degree%2]}})
				}
				if degree > 0 && degree%2 == 0 && n > 0 { // it leads n times around the degree below
					groups[degree].Free, groups[degree-1].Free = 0, 0
					groups[degree-1].Parts = invariantsOf([]int64{n})
				}
			}
			name := fmt.Sprintf("LensComplex(%d, %d)", n, k)
			lens, code := impl.LensComplex(n, k)
			expectResults(t, name, all(want, 0), all(lens, code))
			expectWhole(t, name, groups, lens)
		}
	}
}

func TestLensComplexesByHand(t *testing.T) {
	expectResults(t, "LensComplex of the top 0", all(impl.Whole{Dims: []int64{1}}, 0), all(impl.LensComplex(9, 0)))
	expectResults(t, "LensComplex of the top 1", all(impl.Whole{Dims: []int64{1, 1}, Maps: tables{{{0}}}}, 0), all(impl.LensComplex(9, 1)))
	expectResults(t, "LensComplex of the top 5", all(impl.Whole{Dims: []int64{1, 1, 1, 1, 1, 1}, Maps: tables{{{0}}, {{9}}, {{0}}, {{9}}, {{0}}}}, 0), all(impl.LensComplex(9, 5)))
}
