package tests

import (
	"fmt"
	"testing"

	"loop.example/g01273/impl"
)

// pairOf returns a pair vector.
func pairOf(t *testing.T, x impl.Complex, y impl.Complex, i int64, u []int64, j int64, v []int64) []int64 {
	t.Helper()
	row, code := impl.PairVectors(x, y, i, u, j, v)
	if code != impl.ErrNone {
		t.Fatalf("PairVectors(%v, %v, %d, %v, %d, %v): code %d", x, y, i, u, j, v, code)
	}
	return row
}

func TestPlacesByHand(t *testing.T) {
	x, y := flatOf(3, 2, 0, 3), flatOf(3, 1, 2, 2)
	for _, c := range []struct{ i, a, j, b, place int64 }{
		{0, 0, 0, 0, 0}, {0, 1, 0, 0, 1},
		{0, 0, 1, 0, 0}, {0, 0, 1, 1, 1}, {0, 1, 1, 0, 2}, {0, 1, 1, 1, 3},
		{0, 0, 2, 0, 0}, {0, 1, 2, 1, 3}, {2, 0, 0, 0, 4}, {2, 1, 0, 0, 5}, {2, 2, 0, 0, 6},
		{2, 0, 1, 0, 0}, {2, 0, 1, 1, 1}, {2, 1, 1, 0, 2}, {2, 2, 1, 1, 5},
		{2, 0, 2, 0, 0}, {2, 2, 2, 1, 5},
	} {
		expectResults(t, fmt.Sprint("PlaceOfPair ", c), all(c.place, 0), all(impl.PlaceOfPair(x, y, c.i, c.a, c.j, c.b)))
	}
	for _, c := range []pairLabel{{0, 2, 0, 0}, {0, 0, 0, 1}, {1, 0, 0, 0}, {2, 3, 0, 0}, {0, 0, 1, 2}, {3, 0, 0, 0}, {0, 0, 3, 0}, {0, -1, 0, 0}, {0, 0, 0, -1}, {-1, 0, 1, 0}, {1, 0, -1, 0}} {
		expectCode(t, fmt.Sprint("PlaceOfPair ", c), impl.ErrRange, all(impl.PlaceOfPair(x, y, c.i, c.a, c.j, c.b)))
	}
}

// expectPlaces checks that the places of the pairs of each degree are 0 and on, each of them once, and
// that pairs beyond them have none.
func expectPlaces(t *testing.T, x impl.Complex, y impl.Complex) {
	t.Helper()
	for n, dim := range plainTensorDims(x, y) {
		labels := pairLabels(x, y, int64(n))
		if int64(len(labels)) != dim {
			t.Fatalf("%d pairs in the dimension %d", len(labels), dim)
		}
		for want, c := range labels {
			place, code := impl.PlaceOfPair(x, y, c.i, c.a, c.j, c.b)
			if place != int64(want) || code != impl.ErrNone {
				t.Errorf("PlaceOfPair %v of %v and %v = %d, %d, want %d", c, x, y, place, code, want)
			}
		}
	}
	for i, first := range x.Dims {
		for j, second := range y.Dims {
			for _, c := range []pairLabel{{int64(i), first, int64(j), 0}, {int64(i), 0, int64(j), second}} {
				expectCode(t, fmt.Sprintf("PlaceOfPair %v of %v and %v", c, x.Dims, y.Dims), impl.ErrRange, all(impl.PlaceOfPair(x, y, c.i, c.a, c.j, c.b)))
			}
		}
	}
}

func TestPlacesTellEachPairOnce(t *testing.T) {
	for _, k := range knownPairs(1, 2, 2) {
		expectPlaces(t, k.X.Complex, k.Y.Complex)
	}
	k := fullPair(5)
	expectPlaces(t, k.X.Complex, k.Y.Complex)
	expectPlaces(t, k.X.Complex, flatOf(5, 0, 0, 0))
	expectPlaces(t, flatOf(5, 0), k.X.Complex)
	expectPlaces(t, flatOf(5, 8, 0, 8), flatOf(5, 0, 8))
}

// TestFirstAndLastPlaces has the first and the last basis vectors of each degree of full complexes.
func TestFirstAndLastPlaces(t *testing.T) {
	k := fullPair(7)
	x, y := k.X.Complex, k.Y.Complex
	for n := range int64(2*impl.MaxTop + 1) {
		low, high := max(0, n-impl.MaxTop), min(n, impl.MaxTop)
		for i := low; i <= high; i++ {
			start := 64 * (i - low)
			expectResults(t, fmt.Sprintf("first pair of %d and %d", i, n-i), all(start, 0), all(impl.PlaceOfPair(x, y, i, 0, n-i, 0)))
			expectResults(t, fmt.Sprintf("last pair of %d and %d", i, n-i), all(start+63, 0), all(impl.PlaceOfPair(x, y, i, 7, n-i, 7)))
			expectCode(t, "no pair", impl.ErrRange, all(impl.PlaceOfPair(x, y, i, 8, n-i, 7)))
			expectCode(t, "no pair", impl.ErrRange, all(impl.PlaceOfPair(x, y, i, 7, n-i, 8)))
		}
	}
}

func TestPairVectorsByHand(t *testing.T) {
	x, y := flatOf(5, 2, 0, 3), flatOf(5, 1, 2, 2)
	expectResults(t, "0 and 0", all([]int64{1, 2}, 0), all(impl.PairVectors(x, y, 0, []int64{2, 4}, 0, []int64{3})))
	expectResults(t, "0 and 1", all([]int64{2, 1, 3, 4}, 0), all(impl.PairVectors(x, y, 0, []int64{1, 4}, 1, []int64{2, 1})))
	expectResults(t, "0 and 2", all([]int64{2, 1, 3, 4, 0, 0, 0}, 0), all(impl.PairVectors(x, y, 0, []int64{1, 4}, 2, []int64{2, 1})))
	expectResults(t, "2 and 0", all([]int64{0, 0, 0, 0, 3, 0, 4}, 0), all(impl.PairVectors(x, y, 2, []int64{1, 0, 3}, 0, []int64{3})))
	expectResults(t, "2 and 2", all([]int64{1, 0, 0, 0, 3, 0}, 0), all(impl.PairVectors(x, y, 2, []int64{1, 0, 3}, 2, []int64{1, 0})))
	expectResults(t, "1 and 2", all([]int64{0, 0, 0, 0, 0, 0}, 0), all(impl.PairVectors(x, y, 1, nil, 2, []int64{1, 0})))
	expectResults(t, "1 and 1", all([]int64{0, 0, 0, 0, 0, 0, 0}, 0), all(impl.PairVectors(x, y, 1, []int64{}, 1, []int64{4, 4})))
	expectResults(t, "nothing", all([]int64{}, 0), all(impl.PairVectors(flatOf(2, 0), flatOf(2, 8), 0, nil, 0, []int64{1, 1, 1, 1, 0, 0, 0, 1})))
	// degrees in which there are no vectors, but which the complexes do not have
	for _, c := range [][2]int64{{-1, 0}, {3, 0}, {3, -1}, {-1, 3}} {
		expectCode(t, fmt.Sprint("PairVectors of the degrees ", c), impl.ErrRange, all(impl.PairVectors(x, flatOf(5, 0), c[0], nil, c[1], nil)))
		expectCode(t, fmt.Sprint("PairVectors of the degrees ", c), impl.ErrRange, all(impl.PairVectors(flatOf(5, 0), y, c[1], nil, c[0], nil)))
	}
}

// cycleRows returns the reduced list of the cycles.
func cycleRows(t *testing.T, x impl.Complex, n int64) [][]int64 {
	t.Helper()
	rows, code := impl.CyclesOf(x, n)
	if code != impl.ErrNone {
		t.Fatalf("CyclesOf(%v, %d): code %d", x, n, code)
	}
	return rows
}

// expectPairVectors checks the pair vectors of some vectors of all degrees, and the differentials of
// these: d of a pair is that of d u and v, and that of u and d v with a sign.
func expectPairVectors(t *testing.T, g *numbers, name string, x impl.Complex, y impl.Complex) {
	t.Helper()
	p, product := x.Prime, plainTensor(x, y)
	for i := range int64(len(x.Dims)) {
		for j := range int64(len(y.Dims)) {
			u, v := g.row(p, x.Dims[i]), g.row(p, y.Dims[j])
			at := fmt.Sprintf("PairVectors %s at %d and %d of %v and %v", name, i, j, u, v)
			row := pairOf(t, x, y, i, u, j, v)
			expectResults(t, at, all(plainPair(x, y, i, u, j, v)), all(row))
			expectResults(t, at+" with zeros", all(make([]int64, len(row))), all(pairOf(t, x, y, i, make([]int64, len(u)), j, v)))
			down := make([]int64, dimIn(product, i+j-1))
			if i > 0 {
				down = pairOf(t, x, y, i-1, plainDifferential(x, i, u), j, v)
			}
			if j > 0 {
				down = sumOfRows(p, down, withSign(p, i, 1), pairOf(t, x, y, i, u, j-1, plainDifferential(y, j, v)))
			}
			expectResults(t, "differential of "+at, all(down), all(plainBoundary(product, i+j, row)))
		}
	}
}

// expectPairsOfCycles checks that pairs of all cycles of the lists are cycles, and boundaries if one of
// the cycles is a boundary.
func expectPairsOfCycles(t *testing.T, name string, x impl.Complex, y impl.Complex) {
	t.Helper()
	product := plainTensor(x, y)
	for i := range int64(len(x.Dims)) {
		for j := range int64(len(y.Dims)) {
			var bounding [][]int64
			for _, u := range cycleRows(t, x, i) {
				for _, v := range cycleRows(t, y, j) {
					row := pairOf(t, x, y, i, u, j, v)
					if !isZeroRow(plainBoundary(product, i+j, row)) {
						t.Errorf("%s: pair %v of cycles %v and %v at %d and %d is no cycle", name, row, u, v, i, j)
					}
				}
				if int(j) < len(y.Maps) {
					for _, v := range y.Maps[j] {
						bounding = append(bounding, pairOf(t, x, y, i, u, j, v))
					}
				}
			}
			if int(i+j) < len(product.Maps) {
				boundaries := product.Maps[i+j]
				if plainRank(x.Prime, append(bounding, boundaries...)) != plainRank(x.Prime, boundaries) {
					t.Errorf("%s: pairs of cycles and boundaries at %d and %d are no boundaries", name, i, j)
				}
			}
		}
	}
}

func TestPairVectors(t *testing.T) {
	g := &numbers{state: 75}
	for _, k := range knownPairs(3, 2, 2) {
		expectPairVectors(t, g, k.name(), k.X.Complex, k.Y.Complex)
		expectPairsOfCycles(t, k.name(), k.X.Complex, k.Y.Complex)
	}
	for _, k := range []knownPair{fullPair(2), fullPair(7)} {
		expectPairVectors(t, g, "of full ones", k.X.Complex, k.Y.Complex)
	}
}

// TestPairVectorsOfGreaterComplexes has complexes of which no tensor product keeps to the limits.
func TestPairVectorsOfGreaterComplexes(t *testing.T) {
	g := &numbers{state: 76}
	for at, k := range knownPairs(1, 3, 4) {
		if at%3 == 0 {
			expectPairVectors(t, g, k.name(), k.X.Complex, k.Y.Complex)
		}
	}
}

// TestPairsOfCyclesAreCycles has tensor products within the limits, and their differentials.
func TestPairsOfCyclesAreCycles(t *testing.T) {
	count, others := 0, 0
	for _, k := range knownPairs(4, 2, 3) {
		x, y := k.X.Complex, k.Y.Complex
		if !hasTensor(x, y) {
			continue
		}
		product := tensorOf(t, x, y)
		for i := range int64(len(x.Dims)) {
			for j := range int64(len(y.Dims)) {
				for _, u := range cycleRows(t, x, i) {
					for _, v := range cycleRows(t, y, j) {
						count++
						down, code := impl.DifferentialOf(product, i+j, pairOf(t, x, y, i, u, j, v))
						if code != impl.ErrNone || !isZeroRow(down) {
							t.Errorf("%s: pair of the cycles %v and %v at %d and %d leads to %v, code %d", k.name(), u, v, i, j, down, code)
						}
					}
					for b, v := range basisOf(y.Dims[j]) {
						if j > 0 && !isZeroRow(u) && !isZeroRow(y.Maps[j-1][b]) {
							others++
							down, _ := impl.DifferentialOf(product, i+j, pairOf(t, x, y, i, u, j, v))
							if isZeroRow(down) {
								t.Errorf("%s: pair of %v and %v, which is no cycle, is one", k.name(), u, v)
							}
						}
					}
				}
			}
		}
	}
	if count < 500 || others < 100 {
		t.Errorf("%d pairs of cycles, %d others", count, others)
	}
}

// TestPairsOfBasisVectors has 1 at the place of the pair.
func TestPairsOfBasisVectors(t *testing.T) {
	for _, k := range knownPairs(1, 2, 2) {
		x, y := k.X.Complex, k.Y.Complex
		for n, dim := range plainTensorDims(x, y) {
			for _, c := range pairLabels(x, y, int64(n)) {
				place, code := impl.PlaceOfPair(x, y, c.i, c.a, c.j, c.b)
				expectCode(t, "PlaceOfPair", impl.ErrNone, all(place, code))
				u, v := basisOf(x.Dims[c.i])[c.a], basisOf(y.Dims[c.j])[c.b]
				expectResults(t, fmt.Sprint("PairVectors ", c), all(basisOf(dim)[place], 0), all(impl.PairVectors(x, y, c.i, u, c.j, v)))
			}
		}
	}
}

// TestAllPairsOfSmallComplexes has all vectors, and all cycles.
func TestAllPairsOfSmallComplexes(t *testing.T) {
	for _, s := range []struct{ x, y string }{
		{"2:2,1:10", "2:1,2:1,1"}, {"3:1,2:1,2", "3:2,1:12"}, {"5:1,1:3", "5:1,1:0"}, {"7:1,1:0", "7:1,1:6"}, {"2:1,1,1:0;1", "2:1,1,1:1;0"}, {"3:1,1,1:2;0", "3:1,0,1:-;-"},
	} {
		x, y := parsed(t, s.x), parsed(t, s.y)
		product := tensorOf(t, x, y)
		for i := range int64(len(x.Dims)) {
			for j := range int64(len(y.Dims)) {
				for _, u := range allRows(x.Prime, x.Dims[i]) {
					for _, v := range allRows(y.Prime, y.Dims[j]) {
						row := pairOf(t, x, y, i, u, j, v)
						expectResults(t, fmt.Sprintf("PairVectors %v at %d and %d of %v and %v", s, i, j, u, v), all(plainPair(x, y, i, u, j, v)), all(row))
						both := isZeroRow(plainDifferential(x, i, u)) && isZeroRow(plainDifferential(y, j, v))
						if both && !isZeroRow(plainDifferential(product, i+j, row)) {
							t.Errorf("%v: pair of the cycles %v and %v at %d and %d is no cycle", s, u, v, i, j)
						}
					}
				}
			}
		}
	}
}
