package tests

import (
	"fmt"
	"slices"
	"testing"

	"loop.example/g01273/impl"
)

func TestConstantOfChapter10(t *testing.T) {
	if impl.MaxElements != 8 {
		t.Errorf("MaxElements = %d", impl.MaxElements)
	}
}

// namedDga returns the algebra with a name.
func namedDga(t *testing.T, name string, p int64) impl.Dga {
	t.Helper()
	a, code := impl.NamedDga(name, p)
	expectCode(t, fmt.Sprintf("NamedDga(%q, %d)", name, p), impl.ErrNone, all(a, code))
	return a
}

// TestSamplesAreAlgebras checks that the algebras of the tests are what they are told to be.
func TestSamplesAreAlgebras(t *testing.T) {
	list := allSamples(3)
	for _, s := range list {
		if broken := brokenConditions(s.Dga); len(broken) > 0 {
			t.Errorf("%v: %v do not hold", s, broken)
		}
		if plainCommutes(s.Dga) != s.commutes {
			t.Errorf("%v is graded commutative: %v", s, !s.commutes)
		}
		expectResults(t, "homology of "+s.String(), all(s.holes), all(holesByRanks(plainFiltered(s.Dga).Complex)))
	}
	if len(list) < 160 {
		t.Errorf("%d algebras", len(list))
	}
}

func TestAlgebrasOfSamples(t *testing.T) {
	for _, s := range allSamples(6) {
		if !impl.IsDga(s.Dga) {
			t.Errorf("IsDga(%v) = false: %v", s, s.Dga)
		}
		expectResults(t, "IsGradedCommutative "+s.String(), all(s.commutes, 0), all(impl.IsGradedCommutative(s.Dga)))
		expectResults(t, "HomologySizes "+s.String(), all(s.holes, 0), all(impl.HomologySizes(s.Dga)))
	}
}

func TestNamedAlgebras(t *testing.T) {
	for _, p := range usualPrimes {
		for _, s := range namedByHand(p) {
			a := namedDga(t, s.name, p)
			if a != s.Dga || !impl.IsDga(a) {
				t.Errorf("NamedDga(%q, %d) = %v", s.name, p, a)
			}
		}
	}
}

// TestAlgebrasByHand has the products and differentials of the algebras with names as the chapter tells
// them.
func TestAlgebrasByHand(t *testing.T) {
	for _, p := range usualPrimes {
		minus := byte(p - 1)
		for _, c := range []struct {
			name       string
			u, v, want impl.Element
		}{
			{"point", impl.Element{1}, impl.Element{1}, impl.Element{1}},
			{"point", impl.Element{minus}, impl.Element{minus}, impl.Element{1}},
			{"circle", impl.Element{0, 1}, impl.Element{0, 1}, impl.Element{}},
			{"circle", impl.Element{1, 1}, impl.Element{1, minus}, impl.Element{1}},
			{"torus", impl.Element{0, 1}, impl.Element{0, 0, 1}, impl.Element{0, 0, 0, 1}},
			{"torus", impl.Element{0, 0, 1}, impl.Element{0, 1}, impl.Element{0, 0, 0, minus}},
			{"torus", impl.Element{0, 1}, impl.Element{0, 1}, impl.Element{}},
			{"torus", impl.Element{0, 0, 1}, impl.Element{0, 0, 1}, impl.Element{}},
			{"torus", impl.Element{0, 1, 1}, impl.Element{0, 1, minus}, impl.Element{0, 0, 0, modulo(p, -2)}},
			{"torus", impl.Element{0, 0, 0, 1}, impl.Element{0, 1}, impl.Element{}},
			{"disc", impl.Element{0, 1}, impl.Element{0, 0, 1}, impl.Element{0, 0, 0, 1}},
			{"disc", impl.Element{0, 0, 1}, impl.Element{0, 1}, impl.Element{0, 0, 0, 1}},
			{"disc", impl.Element{0, 1}, impl.Element{0, 1}, impl.Element{}},
			{"disc", impl.Element{0, 0, 1}, impl.Element{0, 0, 1}, impl.Element{}},
			{"disc", impl.Element{1, 1}, impl.Element{0, 0, minus, 1}, impl.Element{0, 0, minus, 0}},
		} {
			expectResults(t, fmt.Sprintf("product of %v and %v of %s modulo %d", c.u, c.v, c.name, p), all(c.want, 0), all(impl.MultiplyElements(namedDga(t, c.name, p), c.u, c.v)))
		}
		for _, name := range []string{"point", "circle", "torus", "disc"} {
			a := namedDga(t, name, p)
			for k := range a.Size {
				want := impl.Element{}
				if name == "disc" && k == 2 {
					want = impl.Element{0, 1}
				}
				expectResults(t, fmt.Sprintf("differential of e(%d) of %s", k, name), all(want, 0), all(impl.DifferentialIn(a, unitAt(k))))
			}
		}
		expectResults(t, "differential in disc", all(impl.Element{0, minus}, 0), all(impl.DifferentialIn(namedDga(t, "disc", p), impl.Element{1, 1, minus, 1})))
	}
}

// TestHomologyOfNamedAlgebras has the example of the chapter.
func TestHomologyOfNamedAlgebras(t *testing.T) {
	for _, p := range usualPrimes {
		for name, want := range map[string][]int64{"point": {1}, "circle": {1, 1}, "torus": {1, 2, 1}, "disc": {1, 1}} {
			expectResults(t, "HomologySizes "+name, all(want, 0), all(impl.HomologySizes(namedDga(t, name, p))))
		}
	}
}

// TestNamesThatAreNone has other names, and numbers that are no primes, with names and without.
func TestNamesThatAreNone(t *testing.T) {
	names := []string{
		"", " ", "Point", "POINT", "Circle", "CIRCLE", "Torus", "TORUS", "Disc", "DISC", "pOint", "disC", " point", "point ", "circle ", " torus", "disc\n", "\tdisc", "po int", "to rus", "point\x00", "\x00point",
		"points", "poin", "p", "circl", "circles", "toru", "toruss", "tori", "dis", "disk", "discs", "discdisc", "pointcircle", "sphere", "line", "unit", "0", "1", "e(0)", "pöint", "\xff", "\"torus\"", "torus,", "circle torus",
	}
	for _, name := range names {
		for _, p := range usualPrimes {
			expectCode(t, fmt.Sprintf("NamedDga(%q, %d)", name, p), impl.ErrNotFound, all(impl.NamedDga(name, p)))
		}
	}
	for p := int64(-10); p < 60; p++ {
		for _, name := range append([]string{"point", "circle", "torus", "disc"}, names[:8]...) {
			if !slices.Contains(usualPrimes, p) {
				expectCode(t, fmt.Sprintf("NamedDga(%q, %d)", name, p), impl.ErrRange, all(impl.NamedDga(name, p)))
			}
		}
	}
	for _, p := range append([]int64{1<<32 + 2, 1<<32 + 3, 1<<8 + 2, 1<<8 + 5, 1<<16 + 7}, farNumbers...) {
		for _, name := range []string{"point", "circle", "torus", "disc", "", "other"} {
			expectCode(t, fmt.Sprintf("NamedDga(%q, %d)", name, p), impl.ErrRange, all(impl.NamedDga(name, p)))
		}
	}
}

// checkElements holds products and differentials of elements against plain sums.
func checkElements(t *testing.T, s sample, u impl.Element, v impl.Element) {
	t.Helper()
	uv, first := impl.MultiplyElements(s.Dga, u, v)
	du, second := impl.DifferentialIn(s.Dga, u)
	if uv != plainMultiply(s.Dga, u, v) || first != impl.ErrNone {
		t.Errorf("%v: MultiplyElements(%v, %v) = %v, %d", s, u, v, uv, first)
	}
	if du != plainDiff(s.Dga, u) || second != impl.ErrNone {
		t.Errorf("%v: DifferentialIn(%v) = %v, %d", s, u, du, second)
	}
}

// TestAllElements has all pairs of elements of small algebras.
func TestAllElements(t *testing.T) {
	for _, p := range []int64{2, 3, 5} {
		for _, s := range slices.Concat(samples(p), mixedSamples(p)) {
			most := map[int64]int64{2: 5, 3: 3, 5: 2}[p]
			if s.Size > most {
				continue
			}
			list := allElements(s.Dga)
			for _, u := range list {
				for _, v := range list {
					checkElements(t, s, u, v)
				}
			}
		}
	}
}

// TestElementsOfSamples has all pairs of basis elements, elements with the greatest numbers, and others.
func TestElementsOfSamples(t *testing.T) {
	g := &numbers{state: 133}
	for _, s := range allSamples(1) {
		full := elementOf(s.Prime, slices.Repeat([]int64{s.Prime - 1}, int(s.Size)))
		checkElements(t, s, full, full)
		for i := range s.Size {
			for j := range s.Size {
				checkElements(t, s, unitAt(i), unitAt(j))
			}
			checkElements(t, s, unitAt(i), full)
			checkElements(t, s, full, unitAt(i))
		}
		for range 12 {
			checkElements(t, s, randomElement(g, s.Dga), randomElement(g, s.Dga))
		}
	}
}

// TestRulesOfElements checks the unit, the order of factors, the differential twice, and that of products,
// by the functions alone.
func TestRulesOfElements(t *testing.T) {
	g := &numbers{state: 134}
	for _, s := range allSamples(1) {
		multiply := func(u, v impl.Element) impl.Element {
			uv, code := impl.MultiplyElements(s.Dga, u, v)
			expectCode(t, "MultiplyElements", impl.ErrNone, all(uv, code))
			return uv
		}
		d := func(u impl.Element) impl.Element {
			du, code := impl.DifferentialIn(s.Dga, u)
			expectCode(t, "DifferentialIn", impl.ErrNone, all(du, code))
			return du
		}
		for range 3 {
			u, v, w := randomElement(g, s.Dga), randomElement(g, s.Dga), randomElement(g, s.Dga)
			if multiply(unitAt(0), u) != u || multiply(u, unitAt(0)) != u || d(d(u)) != (impl.Element{}) {
				t.Errorf("%v: unit or differential of %v", s, u)
			}
			if multiply(multiply(u, v), w) != multiply(u, multiply(v, w)) {
				t.Errorf("%v: products of %v, %v and %v", s, u, v, w)
			}
			for n := range s.Degrees[s.Size-1] + 1 {
				here := elementWith(s.Dga, rowAt(s.Dga, u, n), n)
				sign := 1 - 2*(n%2)
				if d(multiply(here, v)) != add(s.Prime, multiply(d(here), v), sign, multiply(here, d(v))) {
					t.Errorf("%v: differential of the product of %v and %v", s, here, v)
				}
			}
		}
	}
}

// TestCommutativityOfOneSign has torus with the other sign, and circle with a square.
func TestCommutativityOfOneSign(t *testing.T) {
	for _, p := range usualPrimes {
		a := namedDga(t, "torus", p)
		a.Table[2][1][3] = 1
		expectResults(t, "IsGradedCommutative torus with x y = y x", all(p == 2, 0), all(impl.IsGradedCommutative(a)))
		a.Table[2][1][3] = 0
		expectResults(t, "IsGradedCommutative torus with y x = 0", all(false, 0), all(impl.IsGradedCommutative(a)))
		a.Table[1][2][3] = 0
		expectResults(t, "IsGradedCommutative torus without products", all(true, 0), all(impl.IsGradedCommutative(a)))
		a.Table[2][2][3] = 1
		expectResults(t, "IsGradedCommutative torus with a square", all(p == 2, 0), all(impl.IsGradedCommutative(a)))
	}
}
