package tests

import (
	"fmt"
	"testing"

	"loop.example/g01273/impl"
)

// swapOf returns a swap.
func swapOf(t *testing.T, x impl.Complex, y impl.Complex) tables {
	t.Helper()
	f, code := impl.SwapFamily(x, y)
	if code != impl.ErrNone {
		t.Fatalf("SwapFamily(%v, %v): code %d", x, y, code)
	}
	return f
}

// productOf returns the product of maps.
func productOf(t *testing.T, m mapPair) tables {
	t.Helper()
	f, code := m.product()
	if code != impl.ErrNone {
		t.Fatalf("ProductFamily %s: code %d", m.name(), code)
	}
	return f
}

// mapWith returns a map of which only the family and its ends are known.
func mapWith(x impl.Complex, y impl.Complex, f tables) knownMap {
	return knownMap{X: known{Complex: x}, Y: known{Complex: y}, F: f}
}

// expectQuasiCone checks that a quasi isomorphism is one, and that its cone, if it keeps to the limits,
// has no homology.
func expectQuasiCone(t *testing.T, name string, x impl.Complex, y impl.Complex, f tables) {
	t.Helper()
	expectResults(t, "IsQuasi "+name, all(true, 0), all(impl.IsQuasi(x, y, f)))
	if hasCone(x, y) {
		cone, code := impl.ConeOf(x, y, f)
		expectCode(t, "ConeOf "+name, impl.ErrNone, all(cone, code))
		expectResults(t, "homology of the cone "+name, all(make([]int64, len(cone.Dims))), all(homologyOf(t, cone)))
	}
}

func TestSwapsByHand(t *testing.T) {
	x, y := parsed(t, "5:2,1:32"), parsed(t, "5:1,2:1,4")
	there := tables{
		{{1, 0}, {0, 1}},
		{{0, 1, 0, 0, 0}, {0, 0, 0, 1, 0}, {0, 0, 1, 0, 0}, {0, 0, 0, 0, 1}, {1, 0, 0, 0, 0}},
		{{4, 0}, {0, 4}},
	}
	back := tables{
		{{1, 0}, {0, 1}},
		{{0, 0, 0, 0, 1}, {1, 0, 0, 0, 0}, {0, 0, 1, 0, 0}, {0, 1, 0, 0, 0}, {0, 0, 0, 1, 0}},
		{{4, 0}, {0, 4}},
	}
	expectResults(t, "SwapFamily", all(there, 0), all(impl.SwapFamily(x, y)))
	expectResults(t, "SwapFamily back", all(back, 0), all(impl.SwapFamily(y, x)))
	nothing := flatOf(2, 0, 8)
	expectResults(t, "SwapFamily of nothing", all(tables{{}, basisOf(8)}, 0), all(impl.SwapFamily(nothing, flatOf(2, 1))))
}

// TestSignsOfSwaps has a sign where both degrees are odd.
func TestSignsOfSwaps(t *testing.T) {
	for _, p := range usualPrimes {
		for i := range int64(impl.MaxTop + 1) {
			for j := range impl.MaxTop + 1 - i {
				x, _ := impl.SphereComplex(p, i)
				y, _ := impl.SphereComplex(p, j)
				want := make(tables, i+j+1)
				want[i+j] = [][]int64{{1}}
				if i%2 == 1 && j%2 == 1 {
					want[i+j][0][0] = p - 1
				}
				expectResults(t, fmt.Sprintf("swap of %d and %d modulo %d", i, j, p), all(want, 0), all(impl.SwapFamily(x, y)))
			}
		}
	}
}

// expectSwap checks a swap, which may exceed limits: it is a chain map, and undoes itself.
func expectSwap(t *testing.T, name string, x impl.Complex, y impl.Complex) {
	t.Helper()
	if !hasTensor(x, y) {
		expectCode(t, "SwapFamily "+name, impl.ErrLimit, all(impl.SwapFamily(x, y)))
		return
	}
	there, back := swapOf(t, x, y), swapOf(t, y, x)
	expectResults(t, "SwapFamily "+name, all(plainSwap(x, y)), all(there))
	a, b := tensorOf(t, x, y), tensorOf(t, y, x)
	expectChainMap(t, "of the swap "+name, true, a, b, there)
	expectResults(t, "swap undone "+name, all(identityOf(t, a)), all(composed(t, a, b, a, there, back)))
	expectQuasiCone(t, "of the swap "+name, a, b, there)
}

func TestSwaps(t *testing.T) {
	within := 0
	for _, k := range knownPairs(3, 2, 2) {
		expectSwap(t, k.name(), k.X.Complex, k.Y.Complex)
		if hasTensor(k.X.Complex, k.Y.Complex) {
			within++
		}
		if square := k.X.Complex; hasTensor(square, square) { // one that leads to where it starts
			expectSwap(t, k.name()+" with itself", square, square)
		}
	}
	if within < 100 {
		t.Errorf("%d swaps", within)
	}
	for _, p := range usualPrimes {
		for _, x := range factors(p) {
			for _, y := range factors(p) {
				expectSwap(t, fmt.Sprintf("%v and %v", x, y), x, y)
			}
		}
	}
}

// TestSwapsOfPairs has the images of pair vectors.
func TestSwapsOfPairs(t *testing.T) {
	g := &numbers{state: 77}
	for _, k := range knownPairs(2, 2, 2) {
		x, y := k.X.Complex, k.Y.Complex
		if !hasTensor(x, y) {
			continue
		}
		a, b, swap := tensorOf(t, x, y), tensorOf(t, y, x), swapOf(t, x, y)
		for i := range int64(len(x.Dims)) {
			for j := range int64(len(y.Dims)) {
				u, v := g.row(x.Prime, x.Dims[i]), g.row(x.Prime, y.Dims[j])
				row := pairOf(t, y, x, j, v, i, u)
				want := sumOfRows(x.Prime, make([]int64, len(row)), withSign(x.Prime, i*j, 1), row)
				name := fmt.Sprintf("image of %v and %v of %s", u, v, k.name())
				expectResults(t, name, all(want, 0), all(impl.ApplyFamily(a, b, swap, i+j, pairOf(t, x, y, i, u, j, v))))
			}
		}
	}
}

func TestProductFamiliesByHand(t *testing.T) {
	x, u := parsed(t, "5:2,1:12"), parsed(t, "5:1,2:1,3")
	f := tables{{{2}, {3}}, {{0, 1}}}
	line := parsed(t, "5:1,1:2")
	h := tables{{{4}}, {{4}}}
	// the degree 1 has the pairs of 0 and 1, and then that of 1 and 0, which has two images
	want := tables{{{3}, {2}}, {{3, 0, 0}, {2, 0, 0}, {0, 0, 4}}, {{0, 4}}}
	expectResults(t, "ProductFamily", all(want, 0), all(impl.ProductFamily(x, u, f, line, line, h)))
	want = tables{{{3}, {2}}, {{0, 4, 0}, {0, 0, 3}, {0, 0, 2}}, {{0, 4}}}
	expectResults(t, "ProductFamily", all(want, 0), all(impl.ProductFamily(line, line, h, x, u, f)))
	point := flatOf(5, 1)
	expectResults(t, "ProductFamily with a point", all(tables{{{1}, {4}}, {{0, 3}}}, 0), all(impl.ProductFamily(x, u, f, point, point, tables{{{3}}})))
	expectResults(t, "ProductFamily of points", all(tables{{{2}}}, 0), all(impl.ProductFamily(point, point, tables{{{3}}}, point, point, tables{{{4}}})))
	none := flatOf(5, 0)
	expectResults(t, "ProductFamily to nothing", all(tables{{{}}}, 0), all(impl.ProductFamily(point, point, tables{{{3}}}, point, none, tables{{{}}})))
	expectResults(t, "ProductFamily of nothing", all(tables{{}}, 0), all(impl.ProductFamily(none, point, tables{{}}, point, point, tables{{{1}}})))
}

// expectProduct checks the product of maps, which keeps to the limits.
func expectProduct(t *testing.T, m mapPair) {
	t.Helper()
	name := m.name()
	product := productOf(t, m)
	expectResults(t, "ProductFamily "+name, all(plainProductFamily(m)), all(product))
	a, b := plainTensor(m.source()), plainTensor(m.target())
	expectChainMap(t, "of the product "+name, true, a, b, product)
	for n, want := range kuennethNumbers(m.f.Ranks, m.g.Ranks) {
		expectResults(t, fmt.Sprintf("InducedRank of the product %s at %d", name, n), all(want, 0), all(impl.InducedRank(a, b, product, int64(n))))
	}
	if m.f.isQuasi() && m.g.isQuasi() {
		expectQuasiCone(t, "of the product "+name, a, b, product)
	}
}

func TestProductsOfKnownMaps(t *testing.T) {
	within, beyond, quasi := 0, 0, 0
	for _, m := range mapPairs(4) {
		if !m.fits() {
			beyond++
			f, code := m.product()
			expectCode(t, "ProductFamily "+m.name(), impl.ErrLimit, all(f, code))
			continue
		}
		within++
		if m.f.isQuasi() && m.g.isQuasi() {
			quasi++
		}
		expectProduct(t, m)
	}
	if within < 100 || beyond < 50 || quasi < 50 {
		t.Errorf("%d products within the limits, %d beyond, %d of quasi isomorphisms", within, beyond, quasi)
	}
}

// TestProductsOfSmallMaps has all chain maps between small complexes.
func TestProductsOfSmallMaps(t *testing.T) {
	count := 0
	lists := [][]knownMap{}
	for _, s := range []struct {
		p    int64
		x, y []int64
	}{{2, []int64{1, 1}, []int64{1, 1}}, {2, []int64{2, 1}, []int64{1, 1}}, {2, []int64{1, 1, 1}, []int64{1, 1, 1}}, {3, []int64{1, 1}, []int64{1, 1}}, {5, []int64{1, 1}, []int64{1, 0}}} {
		var list []knownMap
		for _, e := range smallEnds(s.p, s.x, s.y) {
			for _, f := range keepMaps(e, allFamilies(e.x, e.y, 0)) {
				list = append(list, mapWith(e.x, e.y, f))
			}
		}
		lists = append(lists, list)
	}
	for _, list := range lists {
		for at, f := range list {
			for step := range 12 { // not all pairs, but each map with several ones
				m := mapPair{f, list[(at*7+step*5+1)%len(list)]}
				count++
				f := productOf(t, m)
				expectResults(t, "ProductFamily "+m.name(), all(plainProductFamily(m)), all(f))
				expectChainMap(t, "of the product "+m.name(), true, plainTensor(m.source()), plainTensor(m.target()), f)
			}
		}
	}
	if count < 1000 {
		t.Errorf("%d products", count)
	}
}

// TestProductsOfPairs has the images of pair vectors, which are the pair vectors of the images.
func TestProductsOfPairs(t *testing.T) {
	g := &numbers{state: 78}
	for _, m := range mapPairs(1) {
		if !m.fits() {
			continue
		}
		x, y := m.source()
		u, v := m.target()
		a, b, product := tensorOf(t, x, y), tensorOf(t, u, v), productOf(t, m)
		for i := range int64(len(x.Dims)) {
			for j := range int64(len(y.Dims)) {
				first, second := g.row(x.Prime, x.Dims[i]), g.row(x.Prime, y.Dims[j])
				want := pairOf(t, u, v, i, plainImage(u, m.f.F, 0, i, first), j, plainImage(v, m.g.F, 0, j, second))
				name := fmt.Sprintf("image of %v and %v by %s", first, second, m.name())
				expectResults(t, name, all(want, 0), all(impl.ApplyFamily(a, b, product, i+j, pairOf(t, x, y, i, first, j, second))))
			}
		}
	}
}

// TestProductsAndCompositions has products of identities, of compositions and of zeros, and swaps
// ahead of products and behind them.
func TestProductsAndCompositions(t *testing.T) {
	g := &numbers{state: 79}
	for _, m := range mapPairs(2) {
		next := mapPair{movedFrom(g, m.f.Y), movedFrom(g, m.g.Y)}
		if !m.fits() {
			continue
		}
		x, y := m.source()
		u, v := m.target()
		xu, yv := m.f, m.g
		a, b, c := tensorOf(t, x, y), tensorOf(t, u, v), tensorOf(t, next.f.Y.Complex, next.g.Y.Complex)
		one := mapPair{mapWith(x, x, identityOf(t, x)), mapWith(y, y, identityOf(t, y))}
		expectResults(t, "product of identities", all(identityOf(t, a)), all(productOf(t, one)))
		both := mapPair{
			mapWith(x, next.f.Y.Complex, composed(t, x, u, next.f.Y.Complex, m.f.F, next.f.F)),
			mapWith(y, next.g.Y.Complex, composed(t, y, v, next.g.Y.Complex, m.g.F, next.g.F)),
		}
		expectResults(t, "product of compositions", all(composed(t, a, b, c, productOf(t, m), productOf(t, next))), all(productOf(t, both)))
		zero := zeroOf(t, a, b, 0)
		expectResults(t, "product with zeros", all(zero), all(productOf(t, mapPair{mapWith(x, u, zeroOf(t, x, u, 0)), yv})))
		expectResults(t, "product with zeros", all(zero), all(productOf(t, mapPair{xu, mapWith(y, v, zeroOf(t, y, v, 0))})))
		turned := mapPair{m.g, m.f}
		left := composed(t, a, b, tensorOf(t, v, u), productOf(t, m), swapOf(t, u, v))
		right := composed(t, a, tensorOf(t, y, x), tensorOf(t, v, u), swapOf(t, x, y), productOf(t, turned))
		expectResults(t, "swap of a product", all(left), all(right))
	}
}

// TestProductsWithTheUnit has the maps themselves.
func TestProductsWithTheUnit(t *testing.T) {
	for _, m := range knownMaps(1) {
		unit, _ := impl.UnitComplex(m.X.Prime)
		one := mapWith(unit, unit, tables{{{1}}})
		expectResults(t, "product ahead of the unit", all(m.F), all(productOf(t, mapPair{m, one})))
		expectResults(t, "product behind the unit", all(m.F), all(productOf(t, mapPair{one, m})))
	}
}

// TestProductFamiliesAtTheirLimits has products of which only the first, or only the second tensor product
// exceeds the limits, or both.
func TestProductFamiliesAtTheirLimits(t *testing.T) {
	for _, c := range []struct {
		x, u, y, v []int64
		fits       bool
	}{
		{[]int64{1}, []int64{8}, []int64{8}, []int64{1}, true}, {[]int64{1}, []int64{8}, []int64{1}, []int64{2}, false}, {[]int64{8}, []int64{1}, []int64{2}, []int64{1}, false},
		{[]int64{3}, []int64{3}, []int64{3}, []int64{3}, false}, {[]int64{2}, []int64{2}, []int64{4}, []int64{4}, true}, {[]int64{0}, []int64{0}, []int64{8}, []int64{8}, true},
		{[]int64{0}, []int64{2}, []int64{8}, []int64{5}, false}, {[]int64{2}, []int64{0}, []int64{5}, []int64{8}, false},
		{[]int64{1, 1, 0}, []int64{0, 1, 1}, []int64{1, 1, 0, 0}, []int64{0, 0, 1, 1}, true}, {[]int64{0, 0, 0}, []int64{0, 0, 0}, []int64{0, 0, 0, 0, 0}, []int64{0, 0, 0, 0, 0}, false},
		{[]int64{2, 2}, []int64{2, 2}, []int64{2, 2}, []int64{2, 2}, true}, {[]int64{2, 2}, []int64{2, 3}, []int64{2, 2}, []int64{2, 2}, false}, {[]int64{2, 2}, []int64{2, 2}, []int64{2, 3}, []int64{2, 2}, false},
	} {
		g := &numbers{state: 80}
		for _, p := range []int64{2, 7} {
			x, u, y, v := flatOf(p, c.x...), flatOf(p, c.u...), flatOf(p, c.y...), flatOf(p, c.v...)
			m := mapPair{mapWith(x, u, randomFamily(g, x, u, 0)), mapWith(y, v, randomFamily(g, y, v, 0))}
			f, code := m.product()
			if !c.fits {
				expectCode(t, fmt.Sprint("ProductFamily ", c), impl.ErrLimit, all(f, code))
				continue
			}
			expectResults(t, fmt.Sprint("ProductFamily ", c), all(plainProductFamily(m), 0), all(f, code))
		}
	}
}
