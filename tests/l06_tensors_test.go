package tests

import (
	"fmt"
	"slices"
	"testing"

	"loop.example/g01273/impl"
)

// tensorOf returns the tensor product of complexes.
func tensorOf(t *testing.T, x impl.Complex, y impl.Complex) impl.Complex {
	t.Helper()
	product, code := impl.TensorComplexes(x, y)
	if code != impl.ErrNone {
		t.Fatalf("TensorComplexes(%v, %v): code %d", x, y, code)
	}
	return product
}

// expectTensor checks the tensor product, which may exceed limits, and its dimensions.
func expectTensor(t *testing.T, name string, x impl.Complex, y impl.Complex) {
	t.Helper()
	expectResults(t, "TensorDims "+name, all(plainTensorDims(x, y), 0), all(impl.TensorDims(x, y)))
	product, code := impl.TensorComplexes(x, y)
	if !hasTensor(x, y) {
		expectCode(t, "TensorComplexes "+name, impl.ErrLimit, all(product, code))
		return
	}
	expectResults(t, "TensorComplexes "+name, all(plainTensor(x, y), 0), all(product, code))
	if !impl.IsComplex(product) {
		t.Errorf("TensorComplexes %s = %v is no complex", name, product)
	}
}

// expectKuenneth checks the Kuenneth numbers of complexes with homology numbers, for all n.
func expectKuenneth(t *testing.T, name string, x impl.Complex, y impl.Complex, a []int64, b []int64) {
	t.Helper()
	for n := range 2*impl.MaxTop + 1 {
		want := plainKuenneth(a, b, n)
		expectResults(t, fmt.Sprintf("KuennethNumber %s at %d", name, n), all(want, 0), all(impl.KuennethNumber(x, y, int64(n))))
	}
}

func TestTensorsByHand(t *testing.T) {
	x, y := parsed(t, "5:2,1:32"), parsed(t, "5:1,2:1,4")
	// the degree 1 has the four pairs of 0 and 1 first, and then that of 1 and 0; d of the pairs of 1 and
	// 1 has minus d of y at the end
	expectResults(t, "x and y", all("5:2,5,2:10,40,01,04,32;30204,03021"), all(textOf(t, tensorOf(t, x, y))))
	expectResults(t, "y and x", all("5:2,5,2:32,10,01,40,04;12300,40023"), all(textOf(t, tensorOf(t, y, x))))
	expectResults(t, "dimensions", all([]int64{2, 5, 2}, 0), all(impl.TensorDims(x, y)))
	// x has the homology numbers 1, 0 and y has 0, 1
	expectResults(t, "Kuenneth number 0", all(0, 0), all(impl.KuennethNumber(x, y, 0)))
	expectResults(t, "Kuenneth number 1", all(1, 0), all(impl.KuennethNumber(x, y, 1)))
	expectResults(t, "Kuenneth number 2", all(0, 0), all(impl.KuennethNumber(x, y, 2)))
	line := parsed(t, "2:1,1:1")
	expectResults(t, "lines modulo 2", all("2:1,2,1:1,1;11"), all(textOf(t, tensorOf(t, line, line))))
	nothing := parsed(t, "2:0,8:-,-,-,-,-,-,-,-")
	expectResults(t, "with nothing below", all("2:0,8,8:-,-,-,-,-,-,-,-;10000000,01000000,00100000,00010000,00001000,00000100,00000010,00000001"),
		all(textOf(t, tensorOf(t, nothing, line))))
	expectResults(t, "without vectors", all("2:0,0:-"), all(textOf(t, tensorOf(t, parsed(t, "2:0:"), line))))
}

// TestSignsOfTensors has pairs with a vector of each degree.
func TestSignsOfTensors(t *testing.T) {
	for _, p := range usualPrimes {
		for i := range int64(impl.MaxTop) {
			sphere, code := impl.SphereComplex(p, i)
			expectCode(t, "SphereComplex", impl.ErrNone, all(sphere, code))
			line := complexOf(p, []int64{1, 1}, [][]int64{{1}})
			product := tensorOf(t, sphere, line)
			expectResults(t, fmt.Sprintf("modulo %d of the degree %d", p, i), all([][]int64{{[]int64{1, p - 1}[i%2]}}), all(product.Maps[i]))
			product = tensorOf(t, line, sphere)
			expectResults(t, fmt.Sprintf("behind the line modulo %d of the degree %d", p, i), all([][]int64{{1}}), all(product.Maps[i]))
		}
	}
}

func TestSmallTensorsAgainstAllVectors(t *testing.T) {
	count := 0
	for _, s := range []struct {
		p    int64
		x, y []int64
	}{
		{2, []int64{1, 1}, []int64{1, 1}}, {2, []int64{2, 1}, []int64{1, 2}}, {2, []int64{1, 2}, []int64{2, 1}}, {2, []int64{1, 1, 1}, []int64{1, 1, 1}}, {2, []int64{0, 2}, []int64{2, 1}},
		{2, []int64{2}, []int64{1, 2, 1}}, {2, []int64{1, 2, 1}, []int64{1, 1}}, {2, []int64{1, 0, 1}, []int64{1, 1, 1}}, {2, []int64{1, 1, 1, 1}, []int64{1, 1, 1}}, {2, []int64{2, 2}, []int64{1, 1}},
		{3, []int64{1, 1}, []int64{1, 1}}, {3, []int64{1, 2}, []int64{1, 1}}, {3, []int64{1, 1, 1}, []int64{1, 1}}, {3, []int64{1, 1}, []int64{1, 1, 1}}, {3, []int64{0, 1}, []int64{2, 1}},
		{5, []int64{1, 1}, []int64{1, 1}}, {5, []int64{1, 1}, []int64{1, 1, 1}}, {7, []int64{1, 1}, []int64{1, 1}},
	} {
		xs, _ := smallComplexes(s.p, s.x...)
		ys, _ := smallComplexes(s.p, s.y...)
		for _, x := range xs {
			for _, y := range ys {
				count++
				name := fmt.Sprintf("%v and %v", x, y)
				expectTensor(t, name, x, y)
				product := tensorOf(t, x, y)
				var a, b []int64
				for n := range x.Dims {
					a = append(a, plainHomology(x, int64(n)))
				}
				for n := range y.Dims {
					b = append(b, plainHomology(y, int64(n)))
				}
				expectKuenneth(t, name, x, y, a, b)
				for n := range product.Dims {
					expectResults(t, fmt.Sprintf("homology of %s at %d", name, n), all(plainHomology(product, int64(n)), 0), all(impl.KuennethNumber(x, y, int64(n))))
				}
			}
		}
	}
	if count < 300 {
		t.Errorf("%d products", count)
	}
}

func TestKnownTensors(t *testing.T) {
	within, beyond := 0, 0
	for _, k := range knownPairs(4, 2, 2) {
		x, y := k.X.Complex, k.Y.Complex
		expectTensor(t, k.name(), x, y)
		expectKuenneth(t, k.name(), x, y, k.X.Holes, k.Y.Holes)
		want := kuennethNumbers(k.X.Holes, k.Y.Holes)
		if !hasTensor(x, y) { // the numbers hold there too
			beyond++
			expectResults(t, "homology of "+k.name(), all(want), all(holesByRanks(plainTensor(x, y))))
			continue
		}
		within++
		product := tensorOf(t, x, y)
		expectResults(t, "homology of "+k.name(), all(want), all(homologyOf(t, product)))
		euler := alternatingSum([][]int64{x.Dims}) * alternatingSum([][]int64{y.Dims})
		expectResults(t, "Euler number of "+k.name(), all(euler, 0), all(impl.EulerNumber(product)))
	}
	if within < 100 || beyond < 100 {
		t.Errorf("%d products within the limits, %d beyond", within, beyond)
	}
}

// TestGreaterTensors has complexes of which few products keep to the limits, and full ones.
func TestGreaterTensors(t *testing.T) {
	for _, k := range knownPairs(1, 3, 4) {
		expectTensor(t, k.name(), k.X.Complex, k.Y.Complex)
		expectKuenneth(t, k.name(), k.X.Complex, k.Y.Complex, k.X.Holes, k.Y.Holes)
	}
	for _, p := range usualPrimes {
		k := fullPair(p)
		dims := []int64{64, 128, 192, 256, 320, 384, 320, 256, 192, 128, 64}
		expectResults(t, "TensorDims of full ones", all(dims, 0), all(impl.TensorDims(k.X.Complex, k.Y.Complex)))
		expectTensor(t, "of full ones", k.X.Complex, k.Y.Complex)
		for n, want := range []int64{16, 0, 0, 0, 0, 32, 0, 0, 0, 0, 16} {
			expectResults(t, "KuennethNumber of full ones", all(want, 0), all(impl.KuennethNumber(k.X.Complex, k.Y.Complex, int64(n))))
		}
	}
}

// TestTensorsAreTotalsOfProducts has the pairs of the product of chapter 3 in the order of its total.
func TestTensorsAreTotalsOfProducts(t *testing.T) {
	count := 0
	for _, p := range usualPrimes {
		for _, x := range factors(p) {
			for _, y := range factors(p) {
				if !fits(x, y) || !hasTensor(x, y) {
					continue
				}
				count++
				product, code := impl.ProductDouble(x, y)
				expectCode(t, "ProductDouble", impl.ErrNone, all(product, code))
				want, code := impl.TotalOf(product)
				expectResults(t, fmt.Sprintf("total of the product of %v and %v", x, y), all(want, code), all(impl.TensorComplexes(x, y)))
			}
		}
	}
	if count < 500 {
		t.Errorf("%d products", count)
	}
}

// TestTensorsOfThree has the same dimensions and homology numbers in both orders of two products.
func TestTensorsOfThree(t *testing.T) {
	count := 0
	for _, p := range usualPrimes {
		list := factors(p)
		for at, x := range list {
			y, z := list[(at+3)%len(list)], list[(at+7)%len(list)]
			if !hasTensor(x, y) || !hasTensor(y, z) || !hasTensor(plainTensor(x, y), z) {
				continue
			}
			count++
			left, right := tensorOf(t, tensorOf(t, x, y), z), tensorOf(t, x, tensorOf(t, y, z))
			expectResults(t, "dimensions of three", all(left.Dims), all(right.Dims))
			expectResults(t, "homology of three", all(homologyOf(t, left)), all(homologyOf(t, right)))
		}
	}
	if count < 10 {
		t.Errorf("%d products of three", count)
	}
}

func TestTensorsAtTheirLimits(t *testing.T) {
	for top := range impl.MaxTop + 1 {
		for other := range impl.MaxTop + 1 {
			for _, dims := range [][2]int64{{0, 0}, {0, 8}, {8, 0}} {
				x, y := complexOf(3, make([]int64, top+1)), complexOf(3, make([]int64, other+1))
				x.Dims[0], y.Dims[other] = dims[0], dims[1]
				x, y = flatOf(3, x.Dims...), flatOf(3, y.Dims...)
				want := int64(impl.ErrNone)
				if top+other > impl.MaxTop {
					want = impl.ErrLimit
				}
				name := fmt.Sprintf("of the tops %d and %d with %v", top, other, dims)
				expectCode(t, "TensorComplexes "+name, want, all(impl.TensorComplexes(x, y)))
				expectCode(t, "SwapFamily "+name, want, all(impl.SwapFamily(x, y)))
				expectTensor(t, name, x, y)
				expectKuenneth(t, name, x, y, x.Dims, y.Dims)
			}
		}
	}
	for a := range int64(impl.MaxDim + 1) {
		for b := range int64(impl.MaxDim + 1) {
			want := int64(impl.ErrNone)
			if a*b > impl.MaxDim {
				want = impl.ErrLimit
			}
			x, y := flatOf(7, a), flatOf(7, b)
			expectCode(t, fmt.Sprintf("TensorComplexes of %d and %d", a, b), want, all(impl.TensorComplexes(x, y)))
			expectCode(t, fmt.Sprintf("SwapFamily of %d and %d", a, b), want, all(impl.SwapFamily(x, y)))
			// the same at the top, with nothing below
			x, y = flatOf(7, 0, 0, a), flatOf(7, 0, 0, 0, b)
			expectCode(t, fmt.Sprintf("TensorComplexes of %d and %d at the top", a, b), want, all(impl.TensorComplexes(x, y)))
		}
	}
	// dimensions that only add up to too much
	for _, c := range []struct {
		x, y []int64
		fits bool
	}{
		{[]int64{2, 2}, []int64{2, 2}, true}, {[]int64{2, 2}, []int64{2, 3}, false}, {[]int64{1, 4}, []int64{1, 4}, false}, {[]int64{1, 2, 4}, []int64{1, 2}, true},
		{[]int64{1, 1, 3}, []int64{2, 1, 1}, true}, {[]int64{1, 1, 3}, []int64{2, 1, 2}, false}, {[]int64{1, 2, 3}, []int64{2, 1, 0}, true}, {[]int64{4, 0, 4}, []int64{1, 0, 1}, true},
		{[]int64{4, 0, 4}, []int64{1, 0, 2}, false}, {[]int64{8, 8, 8}, []int64{1}, true}, {[]int64{8, 8}, []int64{1, 0}, true}, {[]int64{8, 8}, []int64{0, 1}, true}, {[]int64{8, 1}, []int64{1, 1}, false},
	} {
		x, y := flatOf(2, c.x...), flatOf(2, c.y...)
		if hasTensor(x, y) != c.fits {
			t.Errorf("%v: %v", c, plainTensorDims(x, y))
		}
		expectTensor(t, fmt.Sprint(c), x, y)
		expectTensor(t, fmt.Sprint(c), y, x)
	}
}

// TestKuennethNumbersBeyondTheTops has no homology where there are no degrees.
func TestKuennethNumbersBeyondTheTops(t *testing.T) {
	point, full := flatOf(5, 8), flatOf(5, 8, 8, 8, 8, 8, 8)
	for n, want := range []int64{64, 0, 0, 0, 0, 0, 0, 0, 0, 0, 0} {
		expectResults(t, "of points", all(want, 0), all(impl.KuennethNumber(point, point, int64(n))))
	}
	for n, want := range []int64{64, 64, 64, 64, 64, 64, 0, 0, 0, 0, 0} {
		expectResults(t, "of full and a point", all(want, 0), all(impl.KuennethNumber(full, point, int64(n))))
		expectResults(t, "of a point and full", all(want, 0), all(impl.KuennethNumber(point, full, int64(n))))
	}
	for n, want := range []int64{64, 128, 192, 256, 320, 384, 320, 256, 192, 128, 64} {
		expectResults(t, "of full", all(want, 0), all(impl.KuennethNumber(full, full, int64(n))))
	}
	for _, n := range append([]int64{11, 12}, farNumbers...) {
		expectCode(t, fmt.Sprint("KuennethNumber of ", n), impl.ErrRange, all(impl.KuennethNumber(full, full, n)))
		expectCode(t, fmt.Sprint("KuennethNumber of ", n), impl.ErrRange, all(impl.KuennethNumber(point, point, n)))
	}
}

func TestUnits(t *testing.T) {
	for _, p := range usualPrimes {
		unit, code := impl.UnitComplex(p)
		expectResults(t, "UnitComplex", all(complexOf(p, []int64{1}), 0), all(unit, code))
		if !impl.IsComplex(unit) {
			t.Errorf("UnitComplex(%d) = %v is no complex", p, unit)
		}
	}
	for _, k := range knownComplexes(3) {
		x := k.Complex
		unit, _ := impl.UnitComplex(x.Prime)
		expectResults(t, "unit ahead", all(x, 0), all(impl.TensorComplexes(unit, x)))
		expectResults(t, "unit behind", all(x, 0), all(impl.TensorComplexes(x, unit)))
		expectResults(t, "dimensions with the unit", all(x.Dims, 0), all(impl.TensorDims(x, unit)))
		expectKuenneth(t, "of the unit", unit, x, []int64{1}, k.Holes)
		expectResults(t, "swap with the unit", all(identityOf(t, x), 0), all(impl.SwapFamily(unit, x)))
		expectResults(t, "swap with the unit", all(identityOf(t, x), 0), all(impl.SwapFamily(x, unit)))
		expectResults(t, "power 0", all(unit, 0), all(impl.PowerComplex(x, 0)))
		expectResults(t, "power 1", all(x, 0), all(impl.PowerComplex(x, 1)))
	}
}

func TestSpheresByHand(t *testing.T) {
	expectResults(t, "SphereComplex of 0", all(complexOf(3, []int64{1}), 0), all(impl.SphereComplex(3, 0)))
	expectResults(t, "SphereComplex of 1", all(complexOf(3, []int64{0, 1}, [][]int64{{}}), 0), all(impl.SphereComplex(3, 1)))
	expectResults(t, "SphereComplex of 3", all(complexOf(7, []int64{0, 0, 0, 1}, nil, nil, [][]int64{{}}), 0), all(impl.SphereComplex(7, 3)))
	expectResults(t, "SphereComplex of 5", all(complexOf(2, []int64{0, 0, 0, 0, 0, 1}, nil, nil, nil, nil, [][]int64{{}}), 0), all(impl.SphereComplex(2, 5)))
}

func TestSpheres(t *testing.T) {
	for _, p := range usualPrimes {
		for n := range int64(impl.MaxTop + 1) {
			sphere, code := impl.SphereComplex(p, n)
			expectCode(t, "SphereComplex", impl.ErrNone, all(sphere, code))
			if !impl.IsComplex(sphere) {
				t.Errorf("SphereComplex(%d, %d) = %v is no complex", p, n, sphere)
			}
			dims := make([]int64, n+1)
			dims[n] = 1
			expectResults(t, "SphereComplex", all(flatOf(p, dims...)), all(sphere))
			expectResults(t, "homology of a sphere", all(dims), all(homologyOf(t, sphere)))
			for m := range int64(impl.MaxTop + 1) {
				other, _ := impl.SphereComplex(p, m)
				if n+m > impl.MaxTop {
					expectCode(t, "TensorComplexes of spheres", impl.ErrLimit, all(impl.TensorComplexes(sphere, other)))
					continue
				}
				want, code := impl.SphereComplex(p, n+m)
				expectResults(t, "TensorComplexes of spheres", all(want, code), all(impl.TensorComplexes(sphere, other)))
			}
		}
	}
}

// expectPower checks a power, for which all powers on the way are found plainly.
func expectPower(t *testing.T, x impl.Complex, k int64) {
	t.Helper()
	name := fmt.Sprintf("PowerComplex(%v, %d)", x, k)
	want := complexOf(x.Prime, []int64{1})
	for range k {
		if !hasTensor(want, x) {
			expectCode(t, name, impl.ErrLimit, all(impl.PowerComplex(x, k)))
			return
		}
		want = plainTensor(want, x)
	}
	power, code := impl.PowerComplex(x, k)
	expectResults(t, name, all(want, 0), all(power, code))
	if !impl.IsComplex(power) {
		t.Errorf("%s = %v is no complex", name, power)
	}
	if k > 0 {
		before, _ := impl.PowerComplex(x, k-1)
		expectResults(t, name+" from the power before", all(power, 0), all(impl.TensorComplexes(before, x)))
	}
}

func TestPowersByHand(t *testing.T) {
	line := parsed(t, "5:1,1:2")
	for k, want := range []string{"5:1:", "5:1,1:2", "5:1,2,1:2,2;23", "5:1,3,3,1:2,2,2;230,203,023;232"} {
		power, code := impl.PowerComplex(line, int64(k))
		expectCode(t, "PowerComplex", impl.ErrNone, all(power, code))
		expectResults(t, fmt.Sprint("power ", k), all(want), all(textOf(t, power)))
	}
	power, code := impl.PowerComplex(line, 4)
	expectCode(t, "PowerComplex", impl.ErrNone, all(power, code))
	expectResults(t, "power 4", all([]int64{1, 4, 6, 4, 1}), all(power.Dims))
	circle := parsed(t, "2:1,1:0")
	expectResults(t, "power 4 of a circle", all(flatOf(2, 1, 4, 6, 4, 1), 0), all(impl.PowerComplex(circle, 4)))
}

func TestPowers(t *testing.T) {
	g := &numbers{state: 74}
	counts := map[int64]int{}
	for _, p := range usualPrimes {
		for top := range int64(impl.MaxTop + 1) {
			for range 12 {
				k := knownWith(g, p, top, 2, 2)
				holes := []int64{1}
				for e := range int64(5) {
					expectPower(t, k.Complex, e)
					if power, code := impl.PowerComplex(k.Complex, e); code == impl.ErrNone {
						counts[e]++
						expectResults(t, "homology of a power", all(holes), all(homologyOf(t, power)))
					}
					holes = kuennethNumbers(holes, k.Holes)
				}
			}
		}
	}
	if counts[2] < 20 || counts[3] < 10 || counts[4] < 10 {
		t.Errorf("powers %v", counts)
	}
}

// listsOfDims lists all lists of n of the told dimensions.
func listsOfDims(n int, dims ...int64) [][]int64 {
	lists := [][]int64{{}}
	for range n {
		var longer [][]int64
		for _, list := range lists {
			for _, dim := range dims {
				longer = append(longer, append(slices.Clone(list), dim))
			}
		}
		lists = longer
	}
	return lists
}

// TestPowersAtTheirLimits has tops and dimensions of MaxTop and MaxDim and more, at the last power and
// at one on the way, from which no later power comes back within the limits.
func TestPowersAtTheirLimits(t *testing.T) {
	for length := range impl.MaxTop + 1 {
		for _, dims := range listsOfDims(length+1, 0, 1, 2, 8) {
			for k := range int64(5) {
				expectPower(t, flatOf(2, dims...), k)
			}
		}
	}
	for dim, last := range []int64{4, 4, 3, 1, 1, 1, 1, 1, 1} {
		for k := range int64(5) {
			want := int64(impl.ErrNone)
			if k > last {
				want = impl.ErrLimit
			}
			expectCode(t, fmt.Sprintf("power %d of the dimension %d", k, dim), want, all(impl.PowerComplex(flatOf(3, int64(dim)), k)))
		}
	}
	for top, last := range []int64{4, 4, 2, 1, 1, 1} { // without vectors, so that only the tops count
		for k := range int64(5) {
			want := int64(impl.ErrNone)
			if k > last {
				want = impl.ErrLimit
			}
			expectCode(t, fmt.Sprintf("power %d of the top %d", k, top), want, all(impl.PowerComplex(flatOf(3, make([]int64, top+1)...), k)))
		}
	}
	full := fullPair(3).X.Complex
	for _, k := range append([]int64{5, 6}, farNumbers...) { // also beyond the limits
		expectCode(t, fmt.Sprint("PowerComplex of ", k), impl.ErrRange, all(impl.PowerComplex(full, k)))
		expectCode(t, fmt.Sprint("PowerComplex of ", k), impl.ErrRange, all(impl.PowerComplex(flatOf(3, 0), k)))
	}
}
