package tests

import (
	"fmt"
	"slices"
	"testing"

	"loop.example/g01273/impl"
)

func TestConstantOfChapter9(t *testing.T) {
	if impl.MaxBars != 24 {
		t.Errorf("MaxBars = %d", impl.MaxBars)
	}
}

// levelPairs calls a function for each degree of x and all levels q of at most s.
func levelPairs(x impl.Filtered, check func(n int64, q int64, s int64)) {
	for n := range int64(len(x.Levels)) {
		for s := range int64(impl.MaxLevel + 1) {
			for q := range s + 1 {
				check(n, q, s)
			}
		}
	}
}

func TestBarsByHand(t *testing.T) {
	// three vertices of the levels 0, 1 and 1, three edges of the levels 1, 2 and 4, and the face of the
	// level 5: one vertex lasts, one is gone as it comes, one is gone at 2, and the circle of 4 is filled at 5
	x := leveled(t, "3:3,3,1:210,201,021;121", []int64{0, 1, 1}, []int64{1, 2, 4}, []int64{5})
	expectResults(t, "BarsOf", all([]impl.Bar{bar(0, 0, -1), bar(0, 1, 1), bar(0, 1, 2), bar(1, 4, 5)}, 0), all(impl.BarsOf(x)))
	for _, c := range []struct{ n, q, s, want int64 }{
		{0, 0, 0, 1}, {0, 0, 5, 1}, {0, 1, 1, 2}, {0, 1, 2, 1}, {0, 2, 2, 1}, {0, 5, 5, 1},
		{1, 2, 2, 0}, {1, 3, 4, 0}, {1, 4, 4, 1}, {1, 4, 5, 0}, {1, 5, 5, 0}, {2, 5, 5, 0},
	} {
		expectResults(t, fmt.Sprint("RankBetween ", c), all(c.want, 0), all(impl.RankBetween(x, c.n, c.q, c.s)))
	}
	expectResults(t, "LevelNumbers", all([]int64{1, 0, 0}, 0), all(impl.LevelNumbers(x, 0)))
	expectResults(t, "LevelNumbers", all([]int64{2, 0, 0}, 0), all(impl.LevelNumbers(x, 1)))
	expectResults(t, "LevelNumbers", all([]int64{1, 1, 0}, 0), all(impl.LevelNumbers(x, 4)))
	expectResults(t, "LevelNumbers", all([]int64{1, 0, 0}, 0), all(impl.LevelNumbers(x, 5)))
	// an edge of the level 5 from a vertex of the level 4 to one of the level 0: the younger vertex goes
	x = leveled(t, "5:2,1:41", []int64{4, 0}, []int64{5})
	expectResults(t, "BarsOf an edge", all([]impl.Bar{bar(0, 0, -1), bar(0, 4, 5)}, 0), all(impl.BarsOf(x)))
	// two edges over the same vertex: the earlier one fills it, and both together are a circle of the later one
	x = leveled(t, "7:1,2:3,5", []int64{2}, []int64{5, 3})
	expectResults(t, "BarsOf two edges", all([]impl.Bar{bar(0, 2, 3), bar(1, 5, -1)}, 0), all(impl.BarsOf(x)))
	// the same bar more than once
	x = leveled(t, "2:3,2:111,100", []int64{1, 1, 1}, []int64{1, 1})
	expectResults(t, "BarsOf equal ones", all([]impl.Bar{bar(0, 1, 1), bar(0, 1, 1), bar(0, 1, -1)}, 0), all(impl.BarsOf(x)))
}

func TestBarsOfNothing(t *testing.T) {
	for text, degrees := range map[string]int{"2:0:": 1, "7:0,0:-": 2, "5:0,0,0,0,0,0:-;-;-;-;-": 6} {
		x := leveled(t, text, make([][]int64, degrees)...)
		expectResults(t, "BarsOf "+text, all([]impl.Bar{}, 0), all(impl.BarsOf(x)))
		levelPairs(x, func(n, q, s int64) {
			expectResults(t, "RankBetween in "+text, all(0, 0), all(impl.RankBetween(x, n, q, s)))
			expectResults(t, "LevelNumbers of "+text, all(make([]int64, degrees), 0), all(impl.LevelNumbers(x, q)))
		})
	}
}

func TestSmallRanksAgainstAllVectors(t *testing.T) {
	apart := 0
	for _, x := range smallFiltereds(4) {
		numbers := make([][]int64, impl.MaxLevel+1)
		levelPairs(x, func(n, q, s int64) {
			want := plainRankBetween(x, n, q, s)
			expectResults(t, fmt.Sprintf("RankBetween(%v, %d, %d, %d)", x, n, q, s), all(want, 0), all(impl.RankBetween(x, n, q, s)))
			if q == s {
				numbers[q] = append(numbers[q], want)
			} else if want > 0 {
				apart++
			}
		})
		for q, want := range numbers {
			expectResults(t, fmt.Sprintf("LevelNumbers(%v, %d)", x, q), all(want, 0), all(impl.LevelNumbers(x, int64(q))))
		}
	}
	if apart < 500 {
		t.Errorf("%d ranks between levels apart", apart)
	}
}

func TestSmallBarsAgainstAllVectors(t *testing.T) {
	short, long, lasting := 0, 0, 0
	for _, x := range smallFiltereds(12) {
		want := plainBarsOf(x)
		expectResults(t, fmt.Sprintf("BarsOf(%v)", x), all(want, 0), all(impl.BarsOf(x)))
		for _, b := range want {
			switch {
			case b.Death < 0:
				lasting++
			case b.Death == b.Birth:
				short++
			default:
				long++
			}
		}
	}
	if short < 40 || long < 60 || lasting < 500 {
		t.Errorf("%d bars of length 0, %d longer ones, %d that last", short, long, lasting)
	}
}

// inclusionOf returns the family that leads the part of q into that of s.
func inclusionOf(x impl.Filtered, q int64, s int64) tables {
	var family tables
	for _, levels := range x.Levels {
		var rows, columns []int
		for place, level := range levels {
			if level <= q {
				rows = append(rows, place)
			}
			if level <= s {
				columns = append(columns, place)
			}
		}
		family = append(family, tableOf(rows, columns, func(from, to int) int64 {
			if from == to {
				return 1
			}
			return 0
		}))
	}
	return family
}

// TestRanksAreThoseOfInclusions has the ranks of the maps of homology from part to part.
func TestRanksAreThoseOfInclusions(t *testing.T) {
	for _, k := range knownFiltereds(2) {
		levelPairs(k.Filtered, func(n, q, s int64) {
			lower, _ := impl.PartOf(k.Filtered, q)
			upper, _ := impl.PartOf(k.Filtered, s)
			rank, code := impl.InducedRank(lower.Complex, upper.Complex, inclusionOf(k.Filtered, q, s), n)
			expectCode(t, "InducedRank", impl.ErrNone, all(rank, code))
			expectResults(t, fmt.Sprintf("RankBetween(%v, %d, %d, %d)", k.Filtered, n, q, s), all(rank, 0), all(impl.RankBetween(k.Filtered, n, q, s)))
		})
	}
}

func TestKnownRanks(t *testing.T) {
	for _, k := range knownFiltereds(5) {
		levelPairs(k.Filtered, func(n, q, s int64) {
			want := k.count(func(a piece) bool { return a.Degree == n && a.Birth <= q && (a.Death < 0 || a.Death > s) })
			expectResults(t, fmt.Sprintf("RankBetween(%v, %d, %d, %d)", k.Filtered, n, q, s), all(want, 0), all(impl.RankBetween(k.Filtered, n, q, s)))
		})
	}
}

func TestLevelNumbersAreThoseOfParts(t *testing.T) {
	for _, k := range knownFiltereds(4) {
		for q := range int64(impl.MaxLevel + 1) {
			part, code := impl.PartOf(k.Filtered, q)
			expectCode(t, "PartOf", impl.ErrNone, all(part, code))
			numbers, code := impl.LevelNumbers(k.Filtered, q)
			expectResults(t, fmt.Sprintf("LevelNumbers(%v, %d)", k.Filtered, q), all(homologyOf(t, part.Complex), 0), all(numbers, code))
			for n, number := range numbers {
				expectResults(t, "RankBetween equal levels", all(number, 0), all(impl.RankBetween(k.Filtered, int64(n), q, q)))
			}
		}
		expectResults(t, "LevelNumbers at the last level", all(homologyOf(t, k.Complex), 0), all(impl.LevelNumbers(k.Filtered, impl.MaxLevel)))
	}
}

func TestKnownBars(t *testing.T) {
	twice := 0
	for _, k := range slices.Concat(knownFiltereds(12), steepFiltereds(2)) {
		want := barsOfPieces(k.Pieces)
		name := fmt.Sprintf("BarsOf(%v)", k.Filtered)
		list, code := impl.BarsOf(k.Filtered)
		expectResults(t, name, all(want, 0), all(list, code))
		if !impl.AreBars(list) {
			t.Errorf("%s = %v are no bars", name, list)
		}
		if len(slices.Compact(want)) < len(list) {
			twice++
		}
	}
	if twice < 50 {
		t.Errorf("%d complexes with the same bar more than once", twice)
	}
}

// TestBarsOfFlatComplexes has all bars at one level.
func TestBarsOfFlatComplexes(t *testing.T) {
	for _, k := range knownComplexes(2) {
		for _, q := range []int64{0, 3, impl.MaxLevel} {
			x, code := impl.FlatFiltered(k.Complex, q)
			expectCode(t, "FlatFiltered", impl.ErrNone, all(x, code))
			var want []impl.Bar
			for n, holes := range k.Holes {
				want = append(want, slices.Repeat([]impl.Bar{bar(int64(n), q, q)}, int(k.Ranks[n+1]))...)
				want = append(want, slices.Repeat([]impl.Bar{bar(int64(n), q, -1)}, int(holes))...)
			}
			if len(want) > impl.MaxBars {
				expectCode(t, fmt.Sprintf("BarsOf(%v)", x), impl.ErrLimit, all(impl.BarsOf(x)))
			} else {
				expectResults(t, fmt.Sprintf("BarsOf(%v)", x), all(want, 0), all(impl.BarsOf(x)))
			}
		}
	}
}

// TestMostBarsOfComplexes has MaxBars bars, and one more.
func TestMostBarsOfComplexes(t *testing.T) {
	for _, p := range usualPrimes {
		for _, dims := range [][]int64{{8, 8, 8}, {4, 4, 4, 4, 4, 4}, {0, 8, 0, 8, 0, 8}, {8, 8, 8, 0, 0, 0}} {
			flat, code := impl.FlatFiltered(flatOf(p, dims...), impl.MaxLevel)
			expectCode(t, "FlatFiltered", impl.ErrNone, all(flat, code))
			if list := barsOf(t, flat); len(list) != impl.MaxBars {
				t.Errorf("BarsOf(%v) = %v", flat, list)
			}
			for n, dim := range dims {
				if dim < impl.MaxDim {
					more := slices.Clone(dims)
					more[n]++
					flat, code := impl.FlatFiltered(flatOf(p, more...), impl.MaxLevel)
					expectCode(t, "FlatFiltered", impl.ErrNone, all(flat, code))
					expectCode(t, fmt.Sprintf("BarsOf(%v)", flat), impl.ErrLimit, all(impl.BarsOf(flat)))
				}
			}
		}
		g := &numbers{state: 122}
		most := slices.Repeat([]piece{{0, 1, 4}, {2, 0, 0}, {4, 2, 5}}, 8)
		expectResults(t, "BarsOf pieces that end", all(barsOfPieces(most), 0), all(impl.BarsOf(filteredOf(g, p, 5, most).Filtered)))
		most = append(slices.Repeat([]piece{{1, 0, 3}, {3, 2, 2}}, 8), slices.Repeat([]piece{{0, 5, -1}}, 8)...)
		expectResults(t, "BarsOf pieces of both kinds", all(barsOfPieces(most), 0), all(impl.BarsOf(filteredOf(g, p, 5, most).Filtered)))
		for _, one := range []piece{{5, 5, -1}, {5, 0, -1}} {
			expectCode(t, "BarsOf one piece more", impl.ErrLimit, all(impl.BarsOf(filteredOf(g, p, 5, append(slices.Clone(most), one)).Filtered)))
		}
		expectCode(t, "BarsOf the most vectors", impl.ErrLimit, all(impl.BarsOf(filteredOf(g, p, 5, slices.Repeat([]piece{{0, 0, -1}, {1, 1, -1}, {2, 2, -1}, {3, 3, -1}, {4, 4, -1}, {5, 5, -1}}, 8)).Filtered)))
	}
}

// TestBarsOfOnePiece has each bar alone, told by a complex of one vector or two.
func TestBarsOfOnePiece(t *testing.T) {
	g := &numbers{state: 123}
	for _, b := range allBars() {
		for top := leastPlainTop([]impl.Bar{b}); top <= impl.MaxTop; top++ {
			p := usualPrimes[g.below(4)]
			k := filteredOf(g, p, top, []piece{piece(b)})
			expectResults(t, fmt.Sprintf("BarsOf(%v)", k.Filtered), all([]impl.Bar{b}, 0), all(impl.BarsOf(k.Filtered)))
		}
	}
}
