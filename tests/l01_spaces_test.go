package tests

import (
	"fmt"
	"slices"
	"testing"

	"loop.example/g01273/impl"
)

func TestReduceRowsByHand(t *testing.T) {
	expectResults(t, "modulo 5", all([][]int64{{1, 2, 0}, {0, 0, 1}}, 0), all(impl.ReduceRows(5, 3, [][]int64{{2, 4, 0}, {1, 2, 3}})))
	expectResults(t, "modulo 7", all([][]int64{{1, 0, 6}, {0, 1, 2}}, 0), all(impl.ReduceRows(7, 3, [][]int64{{0, 3, 6}, {5, 5, 5}, {0, 1, 2}})))
	expectResults(t, "order", all([][]int64{{1, 0}, {0, 1}}, 0), all(impl.ReduceRows(2, 2, [][]int64{{0, 1}, {1, 1}})))
	expectResults(t, "zeros", all([][]int64{}, 0), all(impl.ReduceRows(3, 2, [][]int64{{0, 0}, {0, 0}})))
	expectResults(t, "no rows", all([][]int64{}, 0), all(impl.ReduceRows(3, 2, nil)))
	expectResults(t, "rows without numbers", all([][]int64{}, 0), all(impl.ReduceRows(3, 0, [][]int64{{}, nil})))
	expectResults(t, "multiples", all([][]int64{{1, 3}}, 0), all(impl.ReduceRows(5, 2, [][]int64{{2, 1}, {1, 3}, {4, 2}})))
}

func TestSumsAndMeetsByHand(t *testing.T) {
	a, b := [][]int64{{1, 0, 0}, {0, 1, 0}}, [][]int64{{0, 1, 1}, {1, 1, 0}}
	expectResults(t, "meet", all([][]int64{{1, 1, 0}}, 0), all(impl.MeetOfSpaces(2, 3, a, b)))
	expectResults(t, "sum", all([][]int64{{1, 0, 0}, {0, 1, 0}, {0, 0, 1}}, 0), all(impl.SumOfSpaces(2, 3, a, b)))
	expectResults(t, "meet with nothing", all([][]int64{}, 0), all(impl.MeetOfSpaces(2, 3, a, nil)))
	expectResults(t, "sum with nothing", all([][]int64{{1, 0, 1}, {0, 1, 1}}, 0), all(impl.SumOfSpaces(2, 3, nil, b)))
	expectResults(t, "meet of the same", all([][]int64{{1, 0, 1}, {0, 1, 1}}, 0), all(impl.MeetOfSpaces(2, 3, b, b)))
	expectResults(t, "meet without numbers", all([][]int64{}, 0), all(impl.MeetOfSpaces(2, 0, [][]int64{{}}, [][]int64{{}})))
	expectResults(t, "sum without numbers", all([][]int64{}, 0), all(impl.SumOfSpaces(2, 0, [][]int64{{}}, [][]int64{{}})))
	expectResults(t, "meet modulo 7", all([][]int64{{1, 3, 5}}, 0),
		all(impl.MeetOfSpaces(7, 3, [][]int64{{1, 0, 0}, {0, 3, 5}}, [][]int64{{1, 3, 5}})))
}

// checkSpaces holds the reduced list, the sum and the meet of two lists against all vectors.
func checkSpaces(t *testing.T, p int64, n int64, a [][]int64, b [][]int64) {
	t.Helper()
	name := fmt.Sprintf("modulo %d of %v and %v", p, a, b)
	inA, inB := sumsOf(p, n, a), sumsOf(p, n, b)
	reduced, code := impl.ReduceRows(p, n, a)
	sum, sumCode := impl.SumOfSpaces(p, n, a, b)
	meet, meetCode := impl.MeetOfSpaces(p, n, a, b)
	if code != impl.ErrNone || sumCode != impl.ErrNone || meetCode != impl.ErrNone {
		t.Errorf("%s: codes %d, %d, %d", name, code, sumCode, meetCode)
	}
	both := rowSet{}
	for row := range inA {
		if inB[row] {
			both[row] = true
		}
	}
	expectSpace(t, "ReduceRows "+name, p, n, reduced, inA)
	expectSpace(t, "SumOfSpaces "+name, p, n, sum, sumsOf(p, n, slices.Concat(a, b)))
	expectSpace(t, "MeetOfSpaces "+name, p, n, meet, both)
}

func TestSmallSpacesAgainstAllVectors(t *testing.T) {
	g := &numbers{state: 3}
	for _, p := range []int64{2, 3, 5, 7} {
		for n := int64(0); n <= 4; n++ {
			for range 60 {
				checkSpaces(t, p, n, g.table(p, g.below(3), n), g.table(p, g.below(3), n))
			}
		}
	}
	for range 200 {
		checkSpaces(t, 2, 5, g.table(2, g.below(6), 5), g.table(2, g.below(6), 5))
	}
}

// sparseTable returns a table of the given rank at most.
func sparseTable(g *numbers, p int64, rows int64, columns int64, rank int64) [][]int64 {
	base := g.table(p, rank, columns)
	var table [][]int64
	for range rows {
		table = append(table, timesTable(p, g.row(p, rank), base, columns))
	}
	return table
}

func TestLargeSpaces(t *testing.T) {
	g := &numbers{state: 11}
	for _, p := range []int64{2, 3, 5, 7} {
		for _, n := range []int64{1, 9, 17, 39, impl.MaxRows} {
			for _, rows := range []int64{0, 1, 20, impl.MaxRows} {
				a := sparseTable(g, p, rows, n, 1+g.below(n))
				b := sparseTable(g, p, impl.MaxRows, n, 1+g.below(n))
				name := fmt.Sprintf("modulo %d, %d rows of %d", p, rows, n)
				reduced, code := impl.ReduceRows(p, n, a)
				sum, sumCode := impl.SumOfSpaces(p, n, a, b)
				meet, meetCode := impl.MeetOfSpaces(p, n, a, b)
				if code != impl.ErrNone || sumCode != impl.ErrNone || meetCode != impl.ErrNone {
					t.Errorf("%s: codes %d, %d, %d", name, code, sumCode, meetCode)
				}
				expectSameSpace(t, "ReduceRows "+name, p, n, reduced, a)
				expectSameSpace(t, "SumOfSpaces "+name, p, n, sum, slices.Concat(a, b))
				expectSameSpace(t, "MeetOfSpaces "+name, p, n, meet, meet)
				rankA, rankB := plainRank(p, a), plainRank(p, b)
				if plainRank(p, slices.Concat(a, meet)) != rankA || plainRank(p, slices.Concat(b, meet)) != rankB {
					t.Errorf("MeetOfSpaces %s: %v is not in both", name, meet)
				}
				if len(sum)+len(meet) != rankA+rankB {
					t.Errorf("%s: dimensions %d and %d, sum %d, meet %d", name, rankA, rankB, len(sum), len(meet))
				}
			}
		}
	}
}

func TestReducedListsAreThoseOfTheSpace(t *testing.T) {
	g := &numbers{state: 5}
	for _, p := range []int64{2, 3, 5, 7} {
		for range 50 {
			n := g.below(12)
			rows := g.table(p, g.below(8), n)
			reduced, _ := impl.ReduceRows(p, n, rows)
			expectResults(t, "ReduceRows of a reduced list", all(reduced, 0), all(impl.ReduceRows(p, n, reduced)))
			slices.Reverse(rows)
			expectResults(t, "ReduceRows in the reverse order", all(reduced, 0), all(impl.ReduceRows(p, n, rows)))
			more := slices.Concat(rows, [][]int64{make([]int64, n)}, rows)
			expectResults(t, "ReduceRows of rows twice", all(reduced, 0), all(impl.ReduceRows(p, n, more)))
		}
	}
}
