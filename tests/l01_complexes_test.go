package tests

import (
	"fmt"
	"slices"
	"testing"

	"loop.example/g01273/impl"
)

// parsed returns the complex with a text.
func parsed(t *testing.T, text string) impl.Complex {
	t.Helper()
	x, code := impl.ParseComplex(text)
	if code != impl.ErrNone {
		t.Fatalf("ParseComplex(%q): code %d", text, code)
	}
	return x
}

// textOf returns the text of a complex.
func textOf(t *testing.T, x impl.Complex) string {
	t.Helper()
	text, code := impl.ComplexText(x)
	if code != impl.ErrNone {
		t.Fatalf("ComplexText(%v): code %d", x, code)
	}
	return text
}

// homologyOf returns the homology numbers of a complex.
func homologyOf(t *testing.T, x impl.Complex) []int64 {
	t.Helper()
	list, code := impl.HomologyNumbers(x)
	if code != impl.ErrNone {
		t.Fatalf("HomologyNumbers(%v): code %d", x, code)
	}
	return list
}

func TestErrorCodesAndLimits(t *testing.T) {
	codes := []int64{impl.ErrNone, impl.ErrInvalid, impl.ErrRange, impl.ErrLimit, impl.ErrNotFound, impl.ErrState, impl.ErrSyntax}
	if !slices.Equal(codes, []int64{0, 1, 2, 3, 4, 5, 6}) {
		t.Errorf("codes %v", codes)
	}
	limits := []int64{impl.MaxTop, impl.MaxDim, impl.MaxRows}
	if !slices.Equal(limits, []int64{5, 8, 40}) {
		t.Errorf("limits %v", limits)
	}
}

func TestTriangleModuloThree(t *testing.T) {
	x := parsed(t, "3:3,3,1:210,201,021;121")
	expectResults(t, "HomologyNumbers", all([]int64{1, 0, 0}, 0), all(impl.HomologyNumbers(x)))
	expectResults(t, "DifferentialOf 2", all([]int64{2, 1, 2}, 0), all(impl.DifferentialOf(x, 2, []int64{2})))
	expectResults(t, "DifferentialOf 1", all([]int64{2, 0, 1}, 0), all(impl.DifferentialOf(x, 1, []int64{1, 0, 1})))
	expectResults(t, "DifferentialOf 0", all([]int64{}, 0), all(impl.DifferentialOf(x, 0, []int64{1, 2, 0})))
	expectResults(t, "CyclesOf 0", all([][]int64{{1, 0, 0}, {0, 1, 0}, {0, 0, 1}}, 0), all(impl.CyclesOf(x, 0)))
	expectResults(t, "CyclesOf 1", all([][]int64{{1, 2, 1}}, 0), all(impl.CyclesOf(x, 1)))
	expectResults(t, "CyclesOf 2", all([][]int64{}, 0), all(impl.CyclesOf(x, 2)))
	expectResults(t, "BoundariesOf 0", all([][]int64{{1, 0, 2}, {0, 1, 2}}, 0), all(impl.BoundariesOf(x, 0)))
	expectResults(t, "BoundariesOf 2", all([][]int64{}, 0), all(impl.BoundariesOf(x, 2)))
	expectResults(t, "HomologyList 0", all([][]int64{{0, 0, 1}}, 0), all(impl.HomologyList(x, 0)))
	expectResults(t, "HomologyList 1", all([][]int64{}, 0), all(impl.HomologyList(x, 1)))
	expectResults(t, "IsExactAt 0", all(false, 0), all(impl.IsExactAt(x, 0)))
	expectResults(t, "IsExactAt 1", all(true, 0), all(impl.IsExactAt(x, 1)))
	expectResults(t, "EulerNumber", all(1, 0), all(impl.EulerNumber(x)))
}

func TestExampleOfHomologyNumbers(t *testing.T) {
	x := impl.Complex{Prime: 2, Dims: []int64{1, 1}, Maps: [][][]int64{{{1}}}}
	expectResults(t, "HomologyNumbers", all([]int64{0, 0}, 0), all(impl.HomologyNumbers(x)))
}

func TestDimensionsAtTheirLimits(t *testing.T) {
	for _, text := range []string{
		"2:0:", "7:8:", "5:0,0:-", "3:0,2:-,-", "3:2,0:-", "2:0,0,0,0,0,0:-;-;-;-;-",
		"2:8,8:10000000,01000000,00100000,00010000,00001000,00000100,00000010,00000001",
		"2:1,0,8,0,0,1:-;-,-,-,-,-,-,-,-;-;-;-", "2:8,8,8,8,8,8:" + zeroMapsText(5),
	} {
		x := parsed(t, text)
		if !impl.IsComplex(x) {
			t.Errorf("%q: no complex", text)
		}
		if got := textOf(t, x); got != text {
			t.Errorf("text %q comes back as %q", text, got)
		}
		for n := range int64(len(x.Dims)) {
			cycles, _ := impl.CyclesOf(x, n)
			boundaries, _ := impl.BoundariesOf(x, n)
			if want := int64(len(cycles) - len(boundaries)); homologyOf(t, x)[n] != want {
				t.Errorf("%q: %d cycles, %d boundaries at %d, %v", text, len(cycles), len(boundaries), n, homologyOf(t, x))
			}
		}
	}
	identity := parsed(t, "2:8,8:10000000,01000000,00100000,00010000,00001000,00000100,00000010,00000001")
	expectResults(t, "HomologyNumbers", all([]int64{0, 0}, 0), all(impl.HomologyNumbers(identity)))
	expectResults(t, "HomologyNumbers", all([]int64{0}, 0), all(impl.HomologyNumbers(parsed(t, "2:0:"))))
	expectResults(t, "HomologyNumbers", all([]int64{0, 2}, 0), all(impl.HomologyNumbers(parsed(t, "3:0,2:-,-"))))
	expectResults(t, "CyclesOf", all([][]int64{{1, 0}, {0, 1}}, 0), all(impl.CyclesOf(parsed(t, "3:0,2:-,-"), 1)))
	expectResults(t, "DifferentialOf", all([]int64{}, 0), all(impl.DifferentialOf(parsed(t, "3:0,2:-,-"), 1, []int64{1, 2})))
	expectResults(t, "DifferentialOf", all([]int64{0, 0}, 0), all(impl.DifferentialOf(parsed(t, "3:2,0:-"), 1, nil)))
	expectResults(t, "EulerNumber", all(-2, 0), all(impl.EulerNumber(parsed(t, "3:0,2:-,-"))))
}

// zeroMapsText returns the text of maps of 8 rows of 8 zeros.
func zeroMapsText(count int) string {
	rows := "00000000,00000000,00000000,00000000,00000000,00000000,00000000,00000000"
	text := rows
	for range count - 1 {
		text += ";" + rows
	}
	return text
}

// checkDegreesPlainly holds each degree of a small complex against all its vectors.
func checkDegreesPlainly(t *testing.T, x impl.Complex) {
	t.Helper()
	top := int64(len(x.Dims)) - 1
	for n := int64(0); n <= top; n++ {
		name := fmt.Sprintf("%v at %d", x, n)
		vectors := allRows(x.Prime, x.Dims[n])
		for _, v := range vectors {
			expectResults(t, "DifferentialOf "+name, all(plainDifferential(x, n, v), 0), all(impl.DifferentialOf(x, n, v)))
		}
		cycles := keep(vectors, func(v []int64) bool { return isZeroRow(plainDifferential(x, n, v)) })
		boundaries := [][]int64{make([]int64, x.Dims[n])}
		if n < top {
			for _, v := range allRows(x.Prime, x.Dims[n+1]) {
				boundaries = append(boundaries, plainDifferential(x, n+1, v))
			}
		}
		zs, zCode := impl.CyclesOf(x, n)
		bs, bCode := impl.BoundariesOf(x, n)
		hs, hCode := impl.HomologyList(x, n)
		exact, eCode := impl.IsExactAt(x, n)
		if zCode != impl.ErrNone || bCode != impl.ErrNone || hCode != impl.ErrNone || eCode != impl.ErrNone {
			t.Errorf("%s: codes %d, %d, %d, %d", name, zCode, bCode, hCode, eCode)
		}
		expectSpace(t, "CyclesOf "+name, x.Prime, x.Dims[n], zs, setOf(cycles))
		expectSpace(t, "BoundariesOf "+name, x.Prime, x.Dims[n], bs, setOf(boundaries))
		classes := keep(cycles, func(v []int64) bool {
			return !slices.ContainsFunc(bs, func(row []int64) bool { return v[leadPlace(row)] != 0 })
		})
		expectSpace(t, "HomologyList "+name, x.Prime, x.Dims[n], hs, setOf(classes))
		if number := homologyOf(t, x)[n]; number != int64(len(hs)) || exact != (number == 0) {
			t.Errorf("%s: homology number %d, list %v, exact %v", name, number, hs, exact)
		}
	}
}

func TestSmallComplexesAgainstAllVectors(t *testing.T) {
	for _, dims := range [][]int64{{0}, {1}, {3}, {2, 2}, {0, 2}, {2, 0, 2}, {2, 2, 1}, {1, 2, 2}, {1, 1, 1, 1}, {1, 2, 1, 1, 0, 1}} {
		complexes, others := smallComplexes(2, dims...)
		for _, x := range complexes {
			if !impl.IsComplex(x) {
				t.Errorf("IsComplex(%v) = false", x)
			}
			checkDegreesPlainly(t, x)
		}
		for _, x := range others {
			if impl.IsComplex(x) {
				t.Errorf("IsComplex(%v) = true", x)
			}
		}
	}
	for _, p := range []int64{3, 5, 7} {
		for _, dims := range [][]int64{{2}, {1, 1, 1}, {2, 1}, {1, 2}, {1, 0, 1}} {
			complexes, _ := smallComplexes(p, dims...)
			for _, x := range complexes {
				checkDegreesPlainly(t, x)
			}
		}
	}
}

func TestKnownComplexes(t *testing.T) {
	for _, k := range knownComplexes(12) {
		x := k.Complex
		if !impl.IsComplex(x) {
			t.Fatalf("IsComplex(%v) = false", x)
		}
		expectResults(t, fmt.Sprint("HomologyNumbers ", x), all(k.Holes, 0), all(impl.HomologyNumbers(x)))
		for n, dim := range x.Dims {
			name := fmt.Sprintf("%v at %d", x, n)
			cycles, _ := impl.CyclesOf(x, int64(n))
			boundaries, _ := impl.BoundariesOf(x, int64(n))
			classes, _ := impl.HomologyList(x, int64(n))
			for _, row := range slices.Concat(cycles, boundaries, classes) {
				if !isZeroRow(plainDifferential(x, int64(n), row)) {
					t.Errorf("%s: %v is no cycle", name, row)
				}
			}
			if !isReducedList(x.Prime, dim, cycles) || int64(len(cycles)) != dim-k.Ranks[n] {
				t.Errorf("CyclesOf %s = %v", name, cycles)
			}
			if n < len(x.Maps) {
				expectSameSpace(t, "BoundariesOf "+name, x.Prime, dim, boundaries, x.Maps[n])
			} else if len(boundaries) != 0 {
				t.Errorf("BoundariesOf %s = %v", name, boundaries)
			}
			expectSameSpace(t, "HomologyList "+name, x.Prime, dim, classes, classes)
			expectSameSpace(t, "CyclesOf "+name, x.Prime, dim, cycles, slices.Concat(boundaries, classes))
			for _, row := range classes {
				for _, boundary := range boundaries {
					if row[leadPlace(boundary)] != 0 {
						t.Errorf("HomologyList %s: %v not 0 at the place of %v", name, row, boundary)
					}
				}
			}
			if int64(len(classes)) != k.Holes[n] {
				t.Errorf("HomologyList %s: %v, want %d", name, classes, k.Holes[n])
			}
		}
	}
}

func TestEulerNumbersAreThoseOfHomology(t *testing.T) {
	for _, k := range knownComplexes(12) {
		want := int64(0)
		for n, number := range homologyOf(t, k.Complex) {
			if n%2 == 0 {
				want += number
			} else {
				want -= number
			}
		}
		expectResults(t, fmt.Sprint("EulerNumber ", k.Complex), all(want, 0), all(impl.EulerNumber(k.Complex)))
	}
	expectResults(t, "EulerNumber", all(24, 0), all(impl.EulerNumber(parsed(t, "2:8,0,8,0,8:-;-,-,-,-,-,-,-,-;-;-,-,-,-,-,-,-,-"))))
	expectResults(t, "EulerNumber", all(-16, 0), all(impl.EulerNumber(parsed(t, "2:0,8,0,8:-,-,-,-,-,-,-,-;-;-,-,-,-,-,-,-,-"))))
}

func TestAddComplexes(t *testing.T) {
	x, y := parsed(t, "3:2,1:12"), parsed(t, "3:1,2,1:2,1;11")
	sum, code := impl.AddComplexes(x, y)
	if code != impl.ErrNone || textOf(t, sum) != "3:3,3,1:120,002,001;011" {
		t.Errorf("AddComplexes = %v, %d", sum, code)
	}
	sum, code = impl.AddComplexes(y, x)
	if code != impl.ErrNone || textOf(t, sum) != "3:3,3,1:200,100,012;110" {
		t.Errorf("AddComplexes = %v, %d", sum, code)
	}
	point := parsed(t, "3:1:")
	sum, code = impl.AddComplexes(point, y)
	if code != impl.ErrNone || textOf(t, sum) != "3:2,2,1:02,01;11" {
		t.Errorf("AddComplexes = %v, %d", sum, code)
	}
	sum, code = impl.AddComplexes(parsed(t, "3:0:"), parsed(t, "3:0:"))
	if code != impl.ErrNone || textOf(t, sum) != "3:0:" {
		t.Errorf("AddComplexes = %v, %d", sum, code)
	}
	list := knownComplexes(3)
	for i, k := range list {
		for _, l := range list[i:] {
			sum, code := impl.AddComplexes(k.Complex, l.Complex)
			if code != impl.ErrNone {
				continue
			}
			name := fmt.Sprintf("AddComplexes(%v, %v)", k, l)
			if !impl.IsComplex(sum) || fmt.Sprint(homologyOf(t, sum)) != fmt.Sprint(sumOfLists(k.Holes, l.Holes)) {
				t.Errorf("%s = %v", name, sum)
			}
		}
	}
}

// sumOfLists adds lists number by number.
func sumOfLists(a []int64, b []int64) []int64 {
	sum := make([]int64, max(len(a), len(b)))
	for i, number := range a {
		sum[i] += number
	}
	for i, number := range b {
		sum[i] += number
	}
	return sum
}

func TestAddComplexesAtTheLimit(t *testing.T) {
	expectCode(t, "4 and 4", impl.ErrNone, all(impl.AddComplexes(parsed(t, "2:4:"), parsed(t, "2:4:"))))
	expectCode(t, "8 and 0", impl.ErrNone, all(impl.AddComplexes(parsed(t, "2:8:"), parsed(t, "2:0:"))))
	expectCode(t, "4 and 5", impl.ErrLimit, all(impl.AddComplexes(parsed(t, "2:4:"), parsed(t, "2:5:"))))
	expectCode(t, "8 and 8", impl.ErrLimit, all(impl.AddComplexes(parsed(t, "2:8:"), parsed(t, "2:8:"))))
	expectCode(t, "above", impl.ErrLimit, all(impl.AddComplexes(parsed(t, "2:0,8:-,-,-,-,-,-,-,-"), parsed(t, "2:0,1:-"))))
	expectCode(t, "behind", impl.ErrNone, all(impl.AddComplexes(parsed(t, "2:8:"), parsed(t, "2:0,8:-,-,-,-,-,-,-,-"))))
}

func TestShiftComplex(t *testing.T) {
	x := parsed(t, "5:1,2,1:1,3;21")
	for k, want := range []string{"5:1,2,1:1,3;21", "5:0,1,2,1:-;4,2;34", "5:0,0,1,2,1:-;-;1,3;21", "5:0,0,0,1,2,1:-;-;-;4,2;34"} {
		y, code := impl.ShiftComplex(x, int64(k))
		if code != impl.ErrNone || textOf(t, y) != want {
			t.Errorf("ShiftComplex %d = %v, %d", k, y, code)
		}
	}
	y, code := impl.ShiftComplex(parsed(t, "2:2:"), impl.MaxTop)
	if code != impl.ErrNone || textOf(t, y) != "2:0,0,0,0,0,2:-;-;-;-;-,-" {
		t.Errorf("ShiftComplex to the limit = %v, %d", y, code)
	}
	y, code = impl.ShiftComplex(parsed(t, "2:1,1:1"), 1)
	if code != impl.ErrNone || textOf(t, y) != "2:0,1,1:-;1" {
		t.Errorf("ShiftComplex = %v, %d", y, code)
	}
	for _, k := range knownComplexes(3) {
		top := int64(len(k.Dims)) - 1
		for by := int64(0); by <= impl.MaxTop; by++ {
			y, code := impl.ShiftComplex(k.Complex, by)
			if top+by > impl.MaxTop {
				expectCode(t, "ShiftComplex beyond the limit", impl.ErrLimit, all(y, code))
				continue
			}
			want := append(make([]int64, by), k.Holes...)
			if code != impl.ErrNone || !impl.IsComplex(y) || !slices.Equal(homologyOf(t, y), want) {
				t.Errorf("ShiftComplex(%v, %d) = %v, %d", k.Complex, by, y, code)
			}
		}
	}
}

func TestDualComplex(t *testing.T) {
	for text, want := range map[string]string{
		"3:3,3,1:210,201,021;121": "3:1,3,3:1,2,1;220,102,011",
		"2:0,2:-,-":               "2:2,0:-",
		"2:2,0:-":                 "2:0,2:-,-",
		"7:3:":                    "7:3:",
		"5:2,3:12,34,01":          "5:3,2:130,241",
	} {
		y, code := impl.DualComplex(parsed(t, text))
		if code != impl.ErrNone || textOf(t, y) != want {
			t.Errorf("DualComplex %q = %v, %d", text, y, code)
		}
	}
	for _, k := range knownComplexes(6) {
		y, _ := impl.DualComplex(k.Complex)
		want := slices.Clone(k.Holes)
		slices.Reverse(want)
		if !impl.IsComplex(y) || !slices.Equal(homologyOf(t, y), want) {
			t.Errorf("DualComplex(%v) = %v", k, y)
		}
		expectResults(t, "dual of the dual", all(k.Complex, 0), all(impl.DualComplex(y)))
	}
}
