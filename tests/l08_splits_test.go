package tests

import (
	"fmt"
	"slices"
	"testing"

	"loop.example/g01273/impl"
)

// freeOf returns the free places of the degree n.
func freeOf(t *testing.T, x impl.Complex, n int64) []int64 {
	t.Helper()
	free, code := impl.FreePlaces(x, n)
	expectCode(t, fmt.Sprintf("FreePlaces(%v, %d)", x, n), impl.ErrNone, all(free, code))
	return free
}

// expectDegree checks the holes and the free places of a degree against plain eliminations, and that the
// holes are cycles with 0 at the leads of the boundaries, as many as the homology number.
func expectDegree(t *testing.T, x impl.Complex, n int64) {
	t.Helper()
	name := fmt.Sprintf("(%v, %d)", x, n)
	classes, bottom := plainHomologyList(x, n)
	holes, code := impl.HolesOf(x, n)
	expectResults(t, "HolesOf"+name, all(classes, 0), all(holes, code))
	expectResults(t, "FreePlaces"+name, all(plainFree(x, n), 0), all(impl.FreePlaces(x, n)))
	if number := homologyOf(t, x)[n]; number != int64(len(holes)) || !isReducedList(x.Prime, x.Dims[n], holes) {
		t.Errorf("HolesOf%s = %v, with the homology number %d", name, holes, number)
	}
	for _, hole := range holes {
		if !isZeroRow(plainDifferential(x, n, hole)) {
			t.Errorf("HolesOf%s: %v is no cycle", name, hole)
		}
		for _, row := range bottom {
			if hole[leadPlace(row)] != 0 {
				t.Errorf("HolesOf%s: %v has a number at the lead of %v", name, hole, row)
			}
		}
	}
	cycles, _ := impl.CyclesOf(x, n)
	free := freeOf(t, x, n)
	if !slices.IsSorted(free) || int64(len(free)+len(cycles)) != x.Dims[n] {
		t.Errorf("FreePlaces%s = %v beside %d cycles", name, free, len(cycles))
	}
	for _, row := range cycles {
		if slices.Contains(free, int64(leadPlace(row))) {
			t.Errorf("FreePlaces%s = %v with the lead of %v", name, free, row)
		}
	}
}

// expectSplit checks the three parts of a vector: that they add up, and that each one is such a part.
func expectSplit(t *testing.T, x impl.Complex, n int64, v []int64) {
	t.Helper()
	name := fmt.Sprintf("SplitVector(%v, %d, %v)", x, n, v)
	list, code := impl.SplitVector(x, n, v)
	if code != impl.ErrNone || len(list) != 3 {
		t.Fatalf("%s = %v, %d", name, list, code)
	}
	for _, part := range list {
		if int64(len(part)) != x.Dims[n] || slices.ContainsFunc(part, func(number int64) bool { return number < 0 || number >= x.Prime }) {
			t.Fatalf("%s = %v", name, list)
		}
	}
	b, h, w := list[0], list[1], list[2]
	classes, bottom := plainHomologyList(x, n)
	if sum := sumOfRows(x.Prime, sumOfRows(x.Prime, b, 1, h), 1, w); !slices.Equal(sum, v) {
		t.Errorf("%s = %v, with the sum %v", name, list, sum)
	}
	if _, ok := plainNumbers(x.Prime, x.Dims[n], bottom, b); !ok {
		t.Errorf("%s = %v: the first one is no boundary", name, list)
	}
	if _, ok := plainNumbers(x.Prime, x.Dims[n], classes, h); !ok {
		t.Errorf("%s = %v: the second one is no sum of holes", name, list)
	}
	if !isAtPlaces(w, plainFree(x, n)) {
		t.Errorf("%s = %v: the third one is not at free places alone", name, list)
	}
}

// splitTable lists, for each vector of the degree n, its three parts, found from all boundaries, sums of
// holes and vectors at free places. There are as many of these together as vectors.
func splitTable(x impl.Complex, n int64) map[string][][]int64 {
	p, dim := x.Prime, x.Dims[n]
	classes, bottom := plainHomologyList(x, n)
	var free [][]int64
	for _, place := range plainFree(x, n) {
		free = append(free, basisOf(dim)[place])
	}
	table := map[string][][]int64{}
	for _, b := range allRows(p, int64(len(bottom))) {
		for _, h := range allRows(p, int64(len(classes))) {
			for _, w := range allRows(p, int64(len(free))) {
				parts := [][]int64{timesTable(p, b, bottom, dim), timesTable(p, h, classes, dim), timesTable(p, w, free, dim)}
				table[fmt.Sprint(sumOfRows(p, sumOfRows(p, parts[0], 1, parts[1]), 1, parts[2]))] = parts
			}
		}
	}
	return table
}

func TestConstantOfChapter8(t *testing.T) {
	if impl.MaxRounds != 9 {
		t.Errorf("MaxRounds = %d", impl.MaxRounds)
	}
}

func TestSplitsByHand(t *testing.T) {
	// an edge: of the vertices, the second one is the hole, and the boundary is 1, 2
	x := parsed(t, "3:2,1:12")
	expectResults(t, "HolesOf", all([][]int64{{0, 1}}, 0), all(impl.HolesOf(x, 0)))
	expectResults(t, "HolesOf", all([][]int64{}, 0), all(impl.HolesOf(x, 1)))
	expectResults(t, "FreePlaces", all([]int64{}, 0), all(impl.FreePlaces(x, 0)))
	expectResults(t, "FreePlaces", all([]int64{0}, 0), all(impl.FreePlaces(x, 1)))
	expectResults(t, "SplitVector", all([][]int64{{1, 2}, {0, 1}, {0, 0}}, 0), all(impl.SplitVector(x, 0, []int64{1, 0})))
	expectResults(t, "SplitVector", all([][]int64{{2, 1}, {0, 1}, {0, 0}}, 0), all(impl.SplitVector(x, 0, []int64{2, 2})))
	expectResults(t, "SplitVector", all([][]int64{{0}, {0}, {2}}, 0), all(impl.SplitVector(x, 1, []int64{2})))
	// three edges of a triangle and its face: the cycle 1, 2, 1 has its lead at the first edge
	x = parsed(t, "3:3,3,1:210,201,021;121")
	expectResults(t, "FreePlaces", all([]int64{1, 2}, 0), all(impl.FreePlaces(x, 1)))
	expectResults(t, "FreePlaces", all([]int64{0}, 0), all(impl.FreePlaces(x, 2)))
	expectResults(t, "SplitVector", all([][]int64{{2, 1, 2}, {0, 0, 0}, {0, 1, 0}}, 0), all(impl.SplitVector(x, 1, []int64{2, 2, 2})))
	expectResults(t, "SplitVector", all([][]int64{{1, 2, 0}, {0, 0, 2}, {0, 0, 0}}, 0), all(impl.SplitVector(x, 0, []int64{1, 2, 2})))
	// without the face the cycle is a hole
	x = parsed(t, "3:3,3:210,201,021")
	expectResults(t, "HolesOf", all([][]int64{{1, 2, 1}}, 0), all(impl.HolesOf(x, 1)))
	expectResults(t, "SplitVector", all([][]int64{{0, 0, 0}, {2, 1, 2}, {0, 1, 0}}, 0), all(impl.SplitVector(x, 1, []int64{2, 2, 2})))
	// all three parts in one degree: the boundary 1, 1, 1, the hole 0, 1, 4, and the last place free
	x = parsed(t, "5:1,3,1:1,2,2;111")
	expectResults(t, "HolesOf", all([][]int64{{0, 1, 4}}, 0), all(impl.HolesOf(x, 1)))
	expectResults(t, "FreePlaces", all([]int64{2}, 0), all(impl.FreePlaces(x, 1)))
	expectResults(t, "SplitVector", all([][]int64{{3, 3, 3}, {0, 1, 4}, {0, 0, 1}}, 0), all(impl.SplitVector(x, 1, []int64{3, 4, 3})))
}

func TestSmallSplitsAgainstAllVectors(t *testing.T) {
	shapes := map[int64][][]int64{
		2: {{0}, {1}, {3}, {2, 2}, {0, 2}, {2, 0, 2}, {1, 3, 1}, {2, 2, 1}, {1, 2, 2}, {1, 1, 1, 1}, {1, 2, 1, 1, 0, 1}},
		3: {{2}, {1, 1, 1}, {2, 1}, {1, 2}, {1, 2, 1}}, 5: {{2}, {1, 1, 1}, {2, 1}, {1, 2}}, 7: {{2}, {1, 1, 1}, {2, 1}, {1, 2}},
	}
	for _, p := range usualPrimes {
		for _, dims := range shapes[p] {
			complexes, _ := smallComplexes(p, dims...)
			for _, x := range complexes {
				for n := range int64(len(dims)) {
					expectDegree(t, x, n)
					table := splitTable(x, n)
					vectors := allRows(p, dims[n])
					if len(table) != len(vectors) {
						t.Fatalf("%d vectors of %v at %d are sums of parts", len(table), x, n)
					}
					for _, v := range vectors {
						expectResults(t, fmt.Sprintf("SplitVector(%v, %d, %v)", x, n, v), all(table[fmt.Sprint(v)], 0), all(impl.SplitVector(x, n, v)))
					}
				}
			}
		}
	}
}

// splitComplexes lists complexes of all primes and tops: such as are known, without homology, with zeros
// as differentials, and with the greatest dimensions.
func splitComplexes(each int) []impl.Complex {
	g := &numbers{state: 103}
	var list []impl.Complex
	for _, k := range knownComplexes(each) {
		list = append(list, k.Complex)
	}
	for _, p := range usualPrimes {
		list = append(list, fullPair(p).X.Complex, flatOf(p, 8, 8, 8, 8, 8, 8), flatOf(p, 0, 0, 0, 0, 0, 0), flatOf(p, 0), flatOf(p, 8), flatOf(p, 0, 8, 0), flatOf(p, 8, 0, 8))
		for top := range int64(impl.MaxTop + 1) {
			list = append(list, knownWith(g, p, top, 1, 5).Complex, knownWith(g, p, top, 4, 1).Complex)
		}
	}
	return list
}

func TestSplitsOfKnownComplexes(t *testing.T) {
	g := &numbers{state: 104}
	kinds := [3]int{}
	for _, x := range splitComplexes(6) {
		for n, dim := range x.Dims {
			expectDegree(t, x, int64(n))
			for range 4 {
				v := g.row(x.Prime, dim)
				expectSplit(t, x, int64(n), v)
				parts, _ := impl.SplitVector(x, int64(n), v)
				for k, part := range parts {
					if !isZeroRow(part) {
						kinds[k]++
					}
				}
			}
			for _, v := range basisOf(dim) {
				expectSplit(t, x, int64(n), v)
			}
		}
	}
	if slices.Min(kinds[:]) < 300 {
		t.Errorf("%v boundaries, sums of holes and vectors at free places", kinds)
	}
}

// TestPartsAreSplitIntoThemselves splits each part once more.
func TestPartsAreSplitIntoThemselves(t *testing.T) {
	g := &numbers{state: 105}
	for _, x := range splitComplexes(2) {
		for n, dim := range x.Dims {
			parts, code := impl.SplitVector(x, int64(n), g.row(x.Prime, dim))
			expectCode(t, "SplitVector", impl.ErrNone, all(parts, code))
			for k, part := range parts {
				want := zeros(3, dim)
				copy(want[k], part)
				expectResults(t, fmt.Sprintf("SplitVector(%v, %d, %v)", x, n, part), all(want, 0), all(impl.SplitVector(x, int64(n), part)))
			}
		}
	}
}

// TestSplitsWithOnePartAlone has degrees in which all vectors are boundaries, holes, or free.
func TestSplitsWithOnePartAlone(t *testing.T) {
	for _, p := range usualPrimes {
		for dim := range int64(impl.MaxDim + 1) {
			v := make([]int64, dim)
			places := []int64{}
			for i := range v {
				v[i] = int64(i+1) % p
				places = append(places, int64(i))
			}
			nothing := make([]int64, dim)
			flat := flatOf(p, dim)
			expectResults(t, "HolesOf", all(basisOf(dim), 0), all(impl.HolesOf(flat, 0)))
			expectResults(t, "FreePlaces", all([]int64{}, 0), all(impl.FreePlaces(flat, 0)))
			expectResults(t, "SplitVector of holes", all([][]int64{nothing, v, nothing}, 0), all(impl.SplitVector(flat, 0, v)))
			line := complexOf(p, []int64{dim, dim}, basisOf(dim))
			expectResults(t, "HolesOf", all([][]int64{}, 0), all(impl.HolesOf(line, 0)))
			expectResults(t, "HolesOf", all([][]int64{}, 0), all(impl.HolesOf(line, 1)))
			expectResults(t, "FreePlaces", all([]int64{}, 0), all(impl.FreePlaces(line, 0)))
			expectResults(t, "FreePlaces", all(places, 0), all(impl.FreePlaces(line, 1)))
			expectResults(t, "SplitVector of boundaries", all([][]int64{v, nothing, nothing}, 0), all(impl.SplitVector(line, 0, v)))
			expectResults(t, "SplitVector at free places", all([][]int64{nothing, nothing, v}, 0), all(impl.SplitVector(line, 1, v)))
		}
	}
}
