package tests

import (
	"fmt"
	"math"
	"slices"
	"testing"

	"loop.example/g01273/impl"
)

func TestIsFiltered(t *testing.T) {
	for _, k := range knownFiltereds(3) {
		if !impl.IsFiltered(k.Filtered) {
			t.Errorf("IsFiltered(%v) = false", k.Filtered)
		}
	}
	for _, x := range []impl.Filtered{
		leveled(t, "2:0:", nil), leveled(t, "2:0:", []int64{}), leveled(t, "7:8:", []int64{0, 5, 1, 4, 2, 3, 0, 5}),
		leveled(t, "3:1,1:1", []int64{5}, []int64{5}), leveled(t, "3:1,1:1", []int64{0}, []int64{0}), leveled(t, "3:1,1:0", []int64{5}, []int64{0}),
		leveled(t, "3:2,1:20", []int64{1, 2}, []int64{1}), leveled(t, "3:0,2:-,-", nil, []int64{3, 0}),
		leveled(t, "2:0,0,0,0,0,0:-;-;-;-;-", nil, nil, nil, nil, nil, nil),
	} {
		if !impl.IsFiltered(x) {
			t.Errorf("IsFiltered(%v) = false", x)
		}
	}
}

// TestLevelsOfSmallComplexes holds IsFiltered against the levels of all numbers other than 0.
func TestLevelsOfSmallComplexes(t *testing.T) {
	complexes, others := smallComplexes(2, 2, 1, 1)
	for i, c := range slices.Concat(complexes, others) {
		for _, levels := range allRows(6, 4) {
			x := impl.Filtered{Complex: c, Levels: [][]int64{levels[:2], levels[2:3], levels[3:]}}
			want := i < len(complexes)
			for k, table := range c.Maps {
				for row, list := range table {
					want = want && levelBound(list, x.Levels[k], x.Levels[k+1][row])
				}
			}
			if got := impl.IsFiltered(x); got != want {
				t.Errorf("IsFiltered(%v) = %v", x, got)
			}
		}
	}
}

func TestPartsByHand(t *testing.T) {
	x := leveled(t, "3:3,3,1:210,201,021;121", []int64{0, 1, 2}, []int64{1, 2, 4}, []int64{5})
	for q, want := range []struct {
		text   string
		levels [][]int64
	}{
		{"3:1,0,0:-;-", [][]int64{{0}, {}, {}}},
		{"3:2,1,0:21;-", [][]int64{{0, 1}, {1}, {}}},
		{"3:3,2,0:210,201;-", [][]int64{{0, 1, 2}, {1, 2}, {}}},
		{"3:3,2,0:210,201;-", [][]int64{{0, 1, 2}, {1, 2}, {}}},
		{"3:3,3,0:210,201,021;-", [][]int64{{0, 1, 2}, {1, 2, 4}, {}}},
		{"3:3,3,1:210,201,021;121", [][]int64{{0, 1, 2}, {1, 2, 4}, {5}}},
	} {
		part, code := impl.PartOf(x, int64(q))
		expectResults(t, fmt.Sprint("PartOf ", q), all(textOf(t, part.Complex), want.levels, 0), all(textOf(t, part.Complex), part.Levels, code))
	}
}

func TestPartsThatKeepNothingOrEverything(t *testing.T) {
	x := leveled(t, "5:2,1,1:41;0", []int64{4, 3}, []int64{4}, []int64{5})
	part, code := impl.PartOf(x, 2)
	expectResults(t, "nothing", all("5:0,0,0:-;-", [][]int64{{}, {}, {}}, 0), all(textOf(t, part.Complex), part.Levels, code))
	expectResults(t, "everything", all(x, 0), all(impl.PartOf(x, impl.MaxLevel)))
	for _, k := range knownFiltereds(3) {
		expectResults(t, "everything", all(k.Filtered, 0), all(impl.PartOf(k.Filtered, impl.MaxLevel)))
	}
	// between two vectors that are left out
	x = leveled(t, "7:3:", []int64{5, 0, 5})
	part, code = impl.PartOf(x, 4)
	expectResults(t, "one between", all("7:1:", [][]int64{{0}}, 0), all(textOf(t, part.Complex), part.Levels, code))
}

// plainPart returns the part of q, each number looked up by its own place.
func plainPart(x impl.Filtered, q int64) impl.Filtered {
	part := impl.Filtered{Complex: impl.Complex{Prime: x.Complex.Prime}}
	for n, levels := range x.Levels {
		var kept []int64
		var table [][]int64
		for i, level := range levels {
			if level > q {
				continue
			}
			kept = append(kept, level)
			if n == 0 {
				continue
			}
			var row []int64
			for j, number := range x.Complex.Maps[n-1][i] {
				if x.Levels[n-1][j] <= q {
					row = append(row, number)
				}
			}
			table = append(table, row)
		}
		part.Levels = append(part.Levels, kept)
		part.Complex.Dims = append(part.Complex.Dims, int64(len(kept)))
		if n > 0 {
			part.Complex.Maps = append(part.Complex.Maps, table)
		}
	}
	return part
}

func TestPartsAreFiltered(t *testing.T) {
	for _, k := range knownFiltereds(6) {
		for q := range int64(impl.MaxLevel + 1) {
			part, code := impl.PartOf(k.Filtered, q)
			name := fmt.Sprintf("PartOf(%v, %d)", k.Filtered, q)
			if code != impl.ErrNone || !impl.IsFiltered(part) || !impl.IsComplex(part.Complex) {
				t.Errorf("%s = %v, %d", name, part, code)
			}
			expectResults(t, name, all(plainPart(k.Filtered, q), 0), all(part, code))
			// a piece of a Death beyond q lasts in the part
			for n := range int64(len(part.Levels)) {
				want := k.count(func(a piece) bool { return a.Degree == n && a.Birth <= q && (a.Death < 0 || a.Death > q) })
				if got := homologyOf(t, part.Complex)[n]; got != want {
					t.Errorf("%s: homology number %d at %d, want %d", name, got, n, want)
				}
			}
		}
	}
}

func TestPartsOfParts(t *testing.T) {
	for _, k := range knownFiltereds(2) {
		for q := range int64(impl.MaxLevel + 1) {
			for s := range int64(impl.MaxLevel + 1) {
				part, code := impl.PartOf(k.Filtered, q)
				expectCode(t, "PartOf", impl.ErrNone, all(part, code))
				twice, code := impl.PartOf(part, s)
				expectResults(t, "part of the part", all(plainPart(k.Filtered, min(q, s)), 0), all(twice, code))
			}
		}
	}
}

func TestFlatFiltered(t *testing.T) {
	for _, k := range knownComplexes(3) {
		for q := range int64(impl.MaxLevel + 1) {
			flat, code := impl.FlatFiltered(k.Complex, q)
			want := impl.Filtered{Complex: k.Complex}
			for _, dim := range k.Dims {
				want.Levels = append(want.Levels, slices.Repeat([]int64{q}, int(dim)))
			}
			expectResults(t, fmt.Sprintf("FlatFiltered(%v, %d)", k, q), all(want, 0), all(flat, code))
			if !impl.IsFiltered(flat) {
				t.Errorf("FlatFiltered(%v, %d) is not filtered", k, q)
			}
			page := make([][]int64, len(k.Dims))
			for n, number := range k.Holes {
				page[n] = make([]int64, impl.MaxLevel+1)
				page[n][q] = number
			}
			expectResults(t, "page 1", all(page, 0), all(impl.PageTable(flat, 1)))
		}
	}
	flat, code := impl.FlatFiltered(parsed(t, "2:0:"), 5)
	expectResults(t, "FlatFiltered of nothing", all("2:0:", [][]int64{{}}, 0), all(textOf(t, flat.Complex), flat.Levels, code))
}

func TestErrorsOfFlatFiltered(t *testing.T) {
	good := parsed(t, "3:1,1:1")
	for _, q := range append([]int64{impl.MaxLevel + 1}, farNumbers...) {
		expectCode(t, fmt.Sprint("FlatFiltered at ", q), impl.ErrRange, all(impl.FlatFiltered(good, q)))
	}
	for _, x := range noComplexes() {
		for _, q := range []int64{0, impl.MaxLevel} {
			expectCode(t, fmt.Sprint("FlatFiltered of ", x), impl.ErrInvalid, all(impl.FlatFiltered(x, q)))
		}
		// the level is checked ahead of the errors of the section
		for _, q := range []int64{-1, impl.MaxLevel + 1, math.MaxInt64} {
			expectCode(t, fmt.Sprintf("FlatFiltered of %v at %d", x, q), impl.ErrRange, all(impl.FlatFiltered(x, q)))
		}
	}
}
