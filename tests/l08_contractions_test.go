package tests

import (
	"fmt"
	"slices"
	"testing"

	"loop.example/g01273/impl"
)

// splitOf returns the split contraction.
func splitOf(t *testing.T, x impl.Complex) impl.Contraction {
	t.Helper()
	c, code := impl.ContractionOf(x)
	if code != impl.ErrNone {
		t.Fatalf("ContractionOf(%v): code %d", x, code)
	}
	return c
}

// expectContraction checks what IsContraction says of families of tables.
func expectContraction(t *testing.T, want bool, x impl.Complex, c impl.Contraction) {
	t.Helper()
	expectResults(t, fmt.Sprintf("IsContraction(%v, %v)", x, c), all(want, 0), all(impl.IsContraction(x, c)))
}

// expectSizes checks the numbers of the tables, rows and numbers of a contraction.
func expectSizes(t *testing.T, x impl.Complex, c impl.Contraction) {
	t.Helper()
	if len(c.Down) != len(x.Dims) || len(c.Up) != len(x.Dims) || len(c.Back) != len(x.Dims) {
		t.Fatalf("contraction %v of %v", c, x)
	}
	for n, number := range holesByRanks(x) {
		sizes := [3][2]int64{{x.Dims[n], number}, {number, x.Dims[n]}, {x.Dims[n], dimIn(x, int64(n)+1)}}
		for k, table := range [][][]int64{c.Down[n], c.Up[n], c.Back[n]} {
			wrong := func(row []int64) bool { return int64(len(row)) != sizes[k][1] }
			if int64(len(table)) != sizes[k][0] || slices.ContainsFunc(table, wrong) {
				t.Fatalf("contraction %v of %v", c, x)
			}
		}
	}
}

// expectSplitContraction checks the tables of the split contraction: Up by the holes, and Down and Back of
// each basis vector by the parts that they make.
func expectSplitContraction(t *testing.T, x impl.Complex) {
	t.Helper()
	c, code := impl.ContractionOf(x)
	name := fmt.Sprintf("ContractionOf(%v) = %v, %d", x, c, code)
	if code != impl.ErrNone {
		t.Fatal(name)
	}
	expectSizes(t, x, c)
	expectContraction(t, true, x, c)
	if fails := failing(x, c); len(fails) > 0 {
		t.Errorf("%s: the conditions %v fail", name, fails)
	}
	for n, dim := range x.Dims {
		degree := int64(n)
		classes, _ := plainHomologyList(x, degree)
		if fmt.Sprint(c.Up[n]) != fmt.Sprint(classes) {
			t.Errorf("%s: Up at %d, want %v", name, n, classes)
		}
		for i, v := range basisOf(dim) {
			h, source := timesTable(x.Prime, c.Down[n][i], classes, dim), c.Back[n][i]
			b := plainBoundary(x, degree+1, source)
			w := sumOfRows(x.Prime, sumOfRows(x.Prime, v, x.Prime-1, b), x.Prime-1, h)
			if !isAtPlaces(source, plainFree(x, degree+1)) || !isAtPlaces(w, plainFree(x, degree)) {
				t.Errorf("%s: %v and %v behind the basis vector %d of the degree %d", name, source, w, i, n)
			}
			expectResults(t, "SplitVector", all([][]int64{b, h, w}, 0), all(impl.SplitVector(x, degree, v)))
		}
	}
}

func TestContractionsByHand(t *testing.T) {
	// the edge from 1, 0 to 1, 2: the second end is the hole, the first one is the boundary and once the hole
	x := parsed(t, "3:2,1:12")
	c := impl.Contraction{Down: tables{{{1}, {1}}, {{}}}, Up: tables{{{0, 1}}, {}}, Back: tables{{{1}, {0}}, {{}}}}
	expectResults(t, "ContractionOf", all(c, 0), all(impl.ContractionOf(x)))
	expectContraction(t, true, x, c)
	// the first end as the hole, which is the second one in homology; Back of the boundary stays the edge
	other := impl.Contraction{Down: tables{{{1}, {1}}, {{}}}, Up: tables{{{1, 0}}, {}}, Back: tables{{{0}, {2}}, {{}}}}
	expectContraction(t, true, x, other)
	expectContraction(t, false, x, impl.Contraction{Down: c.Down, Up: other.Up, Back: c.Back})
	expectContraction(t, false, x, impl.Contraction{Down: c.Down, Up: c.Up, Back: other.Back})
	// the class told by twice the hole
	twice := impl.Contraction{Down: tables{{{2}, {2}}, {{}}}, Up: tables{{{0, 2}}, {}}, Back: c.Back}
	expectContraction(t, true, x, twice)
	expectContraction(t, false, x, impl.Contraction{Down: twice.Down, Up: c.Up, Back: c.Back})
	// a line that leads to 2 times a vector, so that Back makes 4 modulo 7 of it
	line := parsed(t, "7:1,1:2")
	back := impl.Contraction{Down: tables{{{}}, {{}}}, Up: tables{{}, {}}, Back: tables{{{4}}, {{}}}}
	expectResults(t, "ContractionOf", all(back, 0), all(impl.ContractionOf(line)))
	for number := range int64(7) {
		back.Back = tables{{{number}}, {{}}}
		expectContraction(t, number == 4, line, back)
	}
	// a circle: all vectors are holes
	circle := parsed(t, "2:1,1:0")
	one := impl.Contraction{Down: tables{{{1}}, {{1}}}, Up: tables{{{1}}, {{1}}}, Back: tables{{{0}}, {{}}}}
	expectResults(t, "ContractionOf", all(one, 0), all(impl.ContractionOf(circle)))
	// nothing at all
	nothing := impl.Contraction{Down: tables{{}}, Up: tables{{}}, Back: tables{{}}}
	expectResults(t, "ContractionOf", all(nothing, 0), all(impl.ContractionOf(flatOf(5, 0))))
	expectContraction(t, true, flatOf(5, 0), nothing)
	expectContraction(t, true, flatOf(5, 0), impl.Contraction{Down: make(tables, 1), Up: make(tables, 1), Back: make(tables, 1)})
	expectContraction(t, false, flatOf(5, 0), impl.Contraction{})
}

// TestEachConditionOnce has contractions with one number changed, so that a condition fails, and no others
// but those that cannot hold then.
func TestEachConditionOnce(t *testing.T) {
	for _, c := range []struct {
		text    string
		change  func(impl.Contraction)
		failing []int
	}{
		// the first vector is a boundary: Down of d is not 0
		{"5:2,1:10", func(c impl.Contraction) { c.Down[0][0][0] = 1 }, []int{1, 4}},
		// the hole and a vector that is none: d of Up is not 0
		{"5:1,2:1,0", func(c impl.Contraction) { c.Up[1][0][0] = 1 }, []int{2, 4}},
		// the hole twice: Down of Up is not the class
		{"5:1:", func(c impl.Contraction) { c.Up[0][0][0] = 2 }, []int{3, 4}},
		{"5:1:", func(c impl.Contraction) { c.Down[0][0][0] = 3 }, []int{3, 4}},
		// Back twice of the boundary, or not at all: the sum is not the vector
		{"5:1,1:1", func(c impl.Contraction) { c.Back[0][0][0] = 2 }, []int{4}},
		{"5:1,1:1", func(c impl.Contraction) { c.Back[0][0][0] = 0 }, []int{4}},
		// Back of what Back makes leads to a boundary above
		{"5:1,1,1,1:1;0;1", func(c impl.Contraction) { c.Back[1][0][0] = 3 }, []int{5}},
		// Back of a hole is a boundary, and so Back of it is not 0, or another hole, and so Down of it is not 0
		{"5:1,1,1:0;1", func(c impl.Contraction) { c.Back[0][0][0] = 2 }, []int{5, 6}},
		{"5:1,1:0", func(c impl.Contraction) { c.Back[0][0][0] = 2 }, []int{6, 7}},
		// Back of a vector at a free place is a hole
		{"5:1,1,1:1;0", func(c impl.Contraction) { c.Back[1][0][0] = 4 }, []int{5, 7}},
	} {
		x := parsed(t, c.text)
		split := splitOf(t, x)
		expectContraction(t, true, x, split)
		c.change(split)
		expectResults(t, fmt.Sprintf("conditions of %v and %v", x, split), all(c.failing), all(failing(x, split)))
		expectContraction(t, false, x, split)
	}
}

func TestSplitContractions(t *testing.T) {
	for _, x := range splitComplexes(4) {
		expectSplitContraction(t, x)
	}
	for _, p := range usualPrimes {
		for _, dims := range [][]int64{{0}, {3}, {1, 1}, {0, 2}, {2, 0, 2}, {2, 2}, {1, 2, 1}} {
			complexes, _ := smallComplexes(p, dims...)
			for at, x := range complexes {
				if at%(len(complexes)/60+1) == 0 {
					expectSplitContraction(t, x)
				}
			}
		}
	}
}

// smallOnes lists complexes of which all families of tables can be tried, and of many alike only some.
func smallOnes() []impl.Complex {
	shapes := map[int64][][]int64{
		2: {{0}, {1}, {2}, {1, 1}, {0, 1}, {2, 1}, {1, 2}, {1, 1, 1}, {1, 0, 1}, {2, 2}, {1, 2, 1}, {1, 1, 1, 1}},
		3: {{1}, {1, 1}, {2, 1}, {1, 2}, {1, 1, 1}}, 5: {{1}, {1, 1}}, 7: {{1}, {1, 1}},
	}
	var list []impl.Complex
	for _, p := range usualPrimes {
		for _, dims := range shapes[p] {
			complexes, _ := smallComplexes(p, dims...)
			for at, x := range complexes {
				if len(complexes) < 12 || at%3 == 0 {
					list = append(list, x)
				}
			}
		}
	}
	return list
}

// TestSmallContractions tries all families of tables of the right sizes.
func TestSmallContractions(t *testing.T) {
	good, bad := 0, 0
	for _, x := range smallOnes() {
		isSplit := false
		split := fmt.Sprint(splitOf(t, x))
		candidates := allCandidates(x)
		for _, c := range candidates {
			want := len(failing(x, c)) == 0
			expectContraction(t, want, x, c)
			isSplit = isSplit || want && fmt.Sprint(c) == split
			if want {
				good++
			} else {
				bad++
			}
		}
		if len(candidates) > 0 && !isSplit {
			t.Errorf("ContractionOf(%v) = %s is none of all contractions", x, split)
		}
	}
	if good < 200 || bad < 3000 {
		t.Errorf("%d contractions, and %d that are none", good, bad)
	}
}

// placesOf lists the places of all numbers of a contraction.
func placesOf(c impl.Contraction) []*int64 {
	var places []*int64
	for _, f := range []tables{c.Down, c.Up, c.Back} {
		for _, table := range f {
			for _, row := range table {
				for i := range row {
					places = append(places, &row[i])
				}
			}
		}
	}
	return places
}

// TestOtherContractions has contractions of any bases, which are seldom the split ones, and changes some
// of their numbers.
func TestOtherContractions(t *testing.T) {
	g := &numbers{state: 106}
	others, fails := 0, [conditionCount + 1]int{}
	for _, k := range slices.Concat(contractions(4, 3, 4), contractions(4, 2, 2)) {
		expectContraction(t, true, k.X, k.C)
		if list := failing(k.X, k.C); len(list) > 0 {
			t.Fatalf("the conditions %v fail of %s", list, k.name())
		}
		if fmt.Sprint(splitOf(t, k.X)) != fmt.Sprint(k.C) {
			others++
		}
		places := placesOf(k.C)
		for range min(8, len(places)) {
			place := places[g.below(int64(len(places)))]
			kept := *place
			*place = (kept + 1 + g.below(k.X.Prime-1)) % k.X.Prime
			list := failing(k.X, k.C)
			expectContraction(t, len(list) == 0, k.X, k.C)
			for _, condition := range list {
				fails[condition]++
			}
			*place = kept
		}
	}
	if others < 100 || slices.Min(fails[1:]) < 60 {
		t.Errorf("%d contractions are not the split ones, and with a number changed conditions fail %v times", others, fails)
	}
}

// TestConditionsBetweenTables exchanges the tables of contractions of one complex.
func TestConditionsBetweenTables(t *testing.T) {
	both := 0
	for _, k := range slices.Concat(contractions(4, 2, 3), contractions(4, 3, 2)) {
		split := splitOf(t, k.X)
		for _, c := range []impl.Contraction{
			{Down: split.Down, Up: k.C.Up, Back: k.C.Back}, {Down: k.C.Down, Up: split.Up, Back: k.C.Back}, {Down: k.C.Down, Up: k.C.Up, Back: split.Back},
		} {
			want := len(failing(k.X, c)) == 0
			if !want {
				both++
			}
			expectContraction(t, want, k.X, c)
		}
	}
	if both < 100 {
		t.Errorf("%d exchanged ones are no contractions", both)
	}
}

// expectHomologyComplex checks the complex of the homology numbers.
func expectHomologyComplex(t *testing.T, x impl.Complex) {
	t.Helper()
	want := flatOf(x.Prime, homologyOf(t, x)...)
	got, code := impl.HomologyComplex(x)
	expectResults(t, fmt.Sprintf("HomologyComplex(%v)", x), all(want, 0), all(got, code))
	expectResults(t, "HomologyNumbers of the HomologyComplex", all(want.Dims, 0), all(impl.HomologyNumbers(got)))
	expectResults(t, "HomologyComplex of the HomologyComplex", all(want, 0), all(impl.HomologyComplex(got)))
}

func TestHomologyComplexes(t *testing.T) {
	expectResults(t, "HomologyComplex", all(flatOf(3, 1, 0), 0), all(impl.HomologyComplex(parsed(t, "3:2,1:12"))))
	expectResults(t, "HomologyComplex", all(flatOf(3, 1, 1), 0), all(impl.HomologyComplex(parsed(t, "3:3,3:210,201,021"))))
	expectResults(t, "HomologyComplex", all(flatOf(7, 0, 0), 0), all(impl.HomologyComplex(parsed(t, "7:1,1:2"))))
	expectResults(t, "HomologyComplex", all(flatOf(7, 3), 0), all(impl.HomologyComplex(flatOf(7, 3))))
	for _, x := range splitComplexes(6) {
		expectHomologyComplex(t, x)
		// Down leads to the homology complex, and Up from it, as chain maps that lead homology one to one
		c, small := splitOf(t, x), flatOf(x.Prime, homologyOf(t, x)...)
		expectResults(t, "IsQuasi of Down", all(true, 0), all(impl.IsQuasi(x, small, c.Down)))
		expectResults(t, "IsQuasi of Up", all(true, 0), all(impl.IsQuasi(small, x, c.Up)))
	}
}
