package tests

import (
	"fmt"
	"slices"
	"testing"

	"loop.example/g01273/impl"
)

// alternatingSum returns the sum of the numbers of a table times (-1)^(i + j).
func alternatingSum(table [][]int64) int64 {
	sum := int64(0)
	for i, column := range table {
		for j, number := range column {
			if (i+j)%2 == 0 {
				sum += number
			} else {
				sum -= number
			}
		}
	}
	return sum
}

// expectDouble checks that x is a double complex.
func expectDouble(t *testing.T, name string, x impl.Double) {
	t.Helper()
	if !impl.IsDouble(x) {
		t.Errorf("%s: IsDouble(%v) = false", name, x)
	}
}

// transposed returns the transposed double complex.
func transposed(t *testing.T, x impl.Double) impl.Double {
	t.Helper()
	y, code := impl.TransposeDouble(x)
	if code != impl.ErrNone {
		t.Fatalf("TransposeDouble(%v): code %d", x, code)
	}
	return y
}

// longStrip is a strip of the four cells 0, 1 and 1, 1 and 1, 0 and 2, 0, modulo 5.
func longStrip() impl.Double {
	x := zeroDouble(5, [][]int64{{0, 1}, {1, 1}, {1, 0}})
	x.Across[1][1][0][0] = 2
	x.Down[1][1][0][0] = 3
	x.Across[2][0][0][0] = 4
	return x
}

func TestLimitsOfDoubles(t *testing.T) {
	if limits := []int64{impl.MaxSide, impl.MaxCell}; !slices.Equal(limits, []int64{4, 4}) {
		t.Errorf("limits %v", limits)
	}
}

func TestLongStripByHand(t *testing.T) {
	x := longStrip()
	expectDouble(t, "strip", x)
	ends, nothing := [][]int64{{0, 1}, {0, 0}, {1, 0}}, [][]int64{{0, 0}, {0, 0}, {0, 0}}
	expectResults(t, "ColumnHomology", all(ends, 0), all(impl.ColumnHomology(x)))
	expectResults(t, "RowHomology", all(nothing, 0), all(impl.RowHomology(x)))
	// the ends are two levels from each other, so that they are left on the page 2
	expectResults(t, "SecondNumbers by columns", all(ends, 0), all(impl.SecondNumbers(x, false)))
	expectResults(t, "SecondNumbers by rows", all(nothing, 0), all(impl.SecondNumbers(x, true)))
	expectResults(t, "DoubleEuler", all(0, 0), all(impl.DoubleEuler(x)))
	total, code := impl.TotalOf(x)
	expectCode(t, "TotalOf", impl.ErrNone, all(total, code))
	expectResults(t, "total", all("5:0,2,2,0:-,-;23,04;-"), all(textOf(t, total)))
	expectResults(t, "homology", all([]int64{0, 0, 0, 0}), all(homologyOf(t, total)))
	for i, want := range []string{"5:0,1:-", "5:1,1:3", "5:1,0:-"} {
		column, code := impl.ColumnOf(x, int64(i))
		expectResults(t, fmt.Sprint("ColumnOf ", i), all(want, 0), all(textOf(t, column), code))
	}
	y := transposed(t, x)
	expectResults(t, "TransposeDouble", all(impl.Double{
		Prime:  5,
		Dims:   [][]int64{{0, 1, 1}, {1, 1, 0}},
		Across: [][][][]int64{{{}, {{}}, {{}}}, {{{}}, {{3}}, {}}},
		Down:   [][][][]int64{{{}, {{}}, {{4}}}, {{{}}, {{2}}, {}}},
	}), all(y))
	expectResults(t, "ColumnHomology transposed", all([][]int64{{0, 0, 0}, {0, 0, 0}}, 0), all(impl.ColumnHomology(y)))
	expectResults(t, "RowHomology transposed", all([][]int64{{0, 0, 1}, {1, 0, 0}}, 0), all(impl.RowHomology(y)))
	expectResults(t, "SecondNumbers transposed", all([][]int64{{0, 0, 1}, {1, 0, 0}}, 0), all(impl.SecondNumbers(y, true)))
}

func TestShortStripsByHand(t *testing.T) {
	flat := zeroDouble(3, [][]int64{{1, 0}, {1, 0}})
	flat.Across[1][0][0][0] = 2
	expectResults(t, "columns of flat", all([][]int64{{1, 0}, {1, 0}}, 0), all(impl.ColumnHomology(flat)))
	expectResults(t, "rows of flat", all([][]int64{{0, 0}, {0, 0}}, 0), all(impl.RowHomology(flat)))
	expectResults(t, "second of flat", all([][]int64{{0, 0}, {0, 0}}, 0), all(impl.SecondNumbers(flat, false)))
	expectResults(t, "second of flat by rows", all([][]int64{{0, 0}, {0, 0}}, 0), all(impl.SecondNumbers(flat, true)))
	upright := zeroDouble(3, [][]int64{{1, 1}, {1, 0}})
	upright.Down[0][1][0][0] = 1
	expectResults(t, "columns of upright", all([][]int64{{0, 0}, {1, 0}}, 0), all(impl.ColumnHomology(upright)))
	expectResults(t, "rows of upright", all([][]int64{{1, 1}, {1, 0}}, 0), all(impl.RowHomology(upright)))
	expectResults(t, "second of upright", all([][]int64{{0, 0}, {1, 0}}, 0), all(impl.SecondNumbers(upright, false)))
	expectResults(t, "second of upright by rows", all([][]int64{{0, 0}, {1, 0}}, 0), all(impl.SecondNumbers(upright, true)))
	expectResults(t, "DoubleEuler of upright", all(-1, 0), all(impl.DoubleEuler(upright)))
	// from the cell 1, 1 alone something leads to the cell 0, 1, which comes from down there too
	corner := zeroDouble(2, [][]int64{{0, 1, 1}, {0, 1, 0}})
	corner.Across[1][1][0][0] = 1
	corner.Down[0][2][0][0] = 1
	expectResults(t, "columns of corner", all([][]int64{{0, 0, 0}, {0, 1, 0}}, 0), all(impl.ColumnHomology(corner)))
	expectResults(t, "rows of corner", all([][]int64{{0, 0, 1}, {0, 0, 0}}, 0), all(impl.RowHomology(corner)))
	expectResults(t, "second of corner", all([][]int64{{0, 0, 0}, {0, 1, 0}}, 0), all(impl.SecondNumbers(corner, false)))
	expectResults(t, "second of corner by rows", all([][]int64{{0, 0, 1}, {0, 0, 0}}, 0), all(impl.SecondNumbers(corner, true)))
}

func TestDoublesAtTheirLimits(t *testing.T) {
	for _, p := range []int64{2, 3, 5, 7} {
		for w := int64(1); w <= impl.MaxSide; w++ {
			for h := int64(1); h <= impl.MaxSide; h++ {
				for dim := int64(0); dim <= impl.MaxCell; dim++ {
					x := zeroDouble(p, sameDims(w, h, dim))
					name := fmt.Sprintf("%d columns of %d cells of %d modulo %d", w, h, dim, p)
					expectDouble(t, name, x)
					expectResults(t, "ColumnHomology "+name, all(x.Dims, 0), all(impl.ColumnHomology(x)))
					expectResults(t, "RowHomology "+name, all(x.Dims, 0), all(impl.RowHomology(x)))
					expectResults(t, "SecondNumbers "+name, all(x.Dims, 0), all(impl.SecondNumbers(x, false)))
					expectResults(t, "SecondNumbers by rows "+name, all(x.Dims, 0), all(impl.SecondNumbers(x, true)))
					expectResults(t, "DoubleEuler "+name, all(w%2*(h%2)*dim, 0), all(impl.DoubleEuler(x)))
					expectResults(t, "TransposeDouble "+name, all(zeroDouble(p, sameDims(h, w, dim)), 0), all(impl.TransposeDouble(x)))
				}
			}
		}
	}
	line := zeroDouble(7, sameDims(1, 2, impl.MaxCell))
	for k := range line.Down[0][1] {
		line.Down[0][1][k][k] = 6
	}
	expectResults(t, "columns of line", all([][]int64{{0, 0}}, 0), all(impl.ColumnHomology(line)))
	expectResults(t, "rows of line", all([][]int64{{4, 4}}, 0), all(impl.RowHomology(line)))
	nothing := zeroDouble(2, [][]int64{{0}})
	expectResults(t, "rows of nothing", all([][]int64{{0}}, 0), all(impl.RowHomology(nothing)))
}

func TestKnownDoubles(t *testing.T) {
	for _, k := range knownDoubles(5) {
		name := fmt.Sprint(k.Double)
		expectDouble(t, "known", k.Double)
		for _, rows := range []bool{false, true} {
			second := k.count(func(s strip) []spot { return s.freeTwice(rows) })
			expectResults(t, fmt.Sprintf("SecondNumbers of %s, %v", name, rows), all(second, 0), all(impl.SecondNumbers(k.Double, rows)))
		}
		columns := k.count(func(s strip) []spot { return s.free(false) })
		rows := k.count(func(s strip) []spot { return s.free(true) })
		expectResults(t, "ColumnHomology of "+name, all(columns, 0), all(impl.ColumnHomology(k.Double)))
		expectResults(t, "RowHomology of "+name, all(rows, 0), all(impl.RowHomology(k.Double)))
		for _, table := range [][][]int64{columns, rows, k.Dims, k.count(func(s strip) []spot { return s.freeTwice(false) })} {
			expectResults(t, "DoubleEuler of "+name, all(alternatingSum(table), 0), all(impl.DoubleEuler(k.Double)))
		}
	}
}

// TestSmallDoublesAgainstAllVectors goes through all double complexes of small dimensions.
func TestSmallDoublesAgainstAllVectors(t *testing.T) {
	for p, shapes := range smallShapes() {
		for _, dims := range shapes {
			doubles, others := smallDoubles(p, dims)
			for _, x := range others {
				if impl.IsDouble(x) {
					t.Errorf("IsDouble(%v) = true", x)
				}
			}
			for _, x := range doubles {
				expectDouble(t, "small", x)
				checkNumbersPlainly(t, x)
			}
		}
	}
}

// checkNumbersPlainly holds all tables of numbers of a double complex against all its vectors.
func checkNumbersPlainly(t *testing.T, x impl.Double) {
	t.Helper()
	for _, rows := range []bool{false, true} {
		first := tableOfSpots(x, func(c spot) int64 { return plainFirst(x, rows, c) })
		second := tableOfSpots(x, func(c spot) int64 { return plainSecond(x, rows, c) })
		name := fmt.Sprintf("of %v, by rows %v", x, rows)
		if rows {
			expectResults(t, "RowHomology "+name, all(first, 0), all(impl.RowHomology(x)))
		} else {
			expectResults(t, "ColumnHomology "+name, all(first, 0), all(impl.ColumnHomology(x)))
		}
		expectResults(t, "SecondNumbers "+name, all(second, 0), all(impl.SecondNumbers(x, rows)))
	}
}

func TestKnownDoublesAgainstAllVectors(t *testing.T) {
	g := &numbers{state: 37}
	for _, p := range []int64{2, 3} {
		for range 40 {
			k := doubleOf(g, p, 1+g.below(impl.MaxSide), 1+g.below(impl.MaxSide), 4)
			checkNumbersPlainly(t, k.Double)
		}
	}
}

func TestTransposedTwice(t *testing.T) {
	for _, k := range knownDoubles(3) {
		x, name := k.Double, fmt.Sprint(k.Double)
		y := transposed(t, x)
		expectDouble(t, "transposed", y)
		expectResults(t, "transposed twice", all(x, 0), all(impl.TransposeDouble(y)))
		if len(y.Dims) != len(x.Dims[0]) || len(y.Across) != len(x.Dims[0]) || len(y.Down) != len(x.Dims[0]) {
			t.Fatalf("TransposeDouble(%s) = %v", name, y)
		}
		expectResults(t, "Dims of the transposed "+name, all(turned(x.Dims, int64(len(x.Dims[0]))), x.Prime), all(y.Dims, y.Prime))
		for _, c := range spotsOf(x) {
			expectResults(t, fmt.Sprint("cell ", c, " of the transposed ", name), all(x.Across[c.i][c.j], x.Down[c.i][c.j]), all(y.Down[c.j][c.i], y.Across[c.j][c.i]))
		}
		columns, code := impl.ColumnHomology(x)
		expectCode(t, "ColumnHomology", impl.ErrNone, all(columns, code))
		expectResults(t, "RowHomology of the transposed "+name, all(turned(columns, int64(len(x.Dims[0]))), 0), all(impl.RowHomology(y)))
		second, code := impl.SecondNumbers(x, true)
		expectCode(t, "SecondNumbers", impl.ErrNone, all(second, code))
		expectResults(t, "SecondNumbers of the transposed "+name, all(turned(second, int64(len(x.Dims[0]))), 0), all(impl.SecondNumbers(y, false)))
		euler, code := impl.DoubleEuler(x)
		expectResults(t, "DoubleEuler of the transposed "+name, all(euler, code), all(impl.DoubleEuler(y)))
	}
}

func TestColumnsAsComplexes(t *testing.T) {
	for _, k := range knownDoubles(3) {
		table, code := impl.ColumnHomology(k.Double)
		expectCode(t, "ColumnHomology", impl.ErrNone, all(table, code))
		for i, dims := range k.Dims {
			name := fmt.Sprintf("ColumnOf(%v, %d)", k.Double, i)
			column, code := impl.ColumnOf(k.Double, int64(i))
			want := impl.Complex{Prime: k.Prime, Dims: dims, Maps: k.Down[i][1:]}
			expectResults(t, name, all(want, 0), all(column, code))
			if !impl.IsComplex(column) {
				t.Errorf("%s is no complex", name)
			}
			expectResults(t, "homology of "+name, all(table[i]), all(homologyOf(t, column)))
		}
	}
}
