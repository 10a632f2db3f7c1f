package tests

import (
	"fmt"
	"testing"

	"loop.example/g01273/impl"
)

// tensorDga returns the tensor product of algebras that keeps to the limits.
func tensorDga(t *testing.T, a impl.Dga, b impl.Dga) impl.Dga {
	t.Helper()
	product, code := impl.TensorDga(a, b)
	expectCode(t, "TensorDga", impl.ErrNone, all(product, code))
	return product
}

func TestTensorAlgebrasByHand(t *testing.T) {
	for _, p := range usualPrimes {
		circle, disc := namedDga(t, "circle", p), namedDga(t, "disc", p)
		// 1, v, u, u v: the pair of 1 and v, and then that of u and 1, have to change places
		want := algebraOf(p, []int64{0, 1, 1, 2}, []int64{0, 1, 1, 2}, []product{{1, 2, 3, -1}, {2, 1, 3, 1}})
		if got := tensorDga(t, circle, circle); got != want {
			t.Errorf("circle and circle: %v", got)
		}
		// 1, t, then u, t u of the degree 1 of circle and 1, x and t x of disc: the pairs of 1 and x, 1 and t x, u and 1, u and t
		pairs := []product{{1, 2, 3, 1}, {2, 1, 3, 1}, {1, 4, 5, 1}, {4, 1, 5, 1}, {4, 2, 6, 1}, {2, 4, 6, -1}, {4, 3, 7, 1}, {3, 4, 7, -1}, {1, 6, 7, 1}, {6, 1, 7, 1}, {5, 2, 7, 1}, {2, 5, 7, -1}}
		want = algebraOf(p, []int64{0, 0, 1, 1, 1, 1, 2, 2}, []int64{0, 1, 1, 2, 1, 2, 2, 3}, pairs, step{2, 1, 1}, step{6, 5, -1})
		if got := tensorDga(t, circle, disc); got != want {
			t.Errorf("circle and disc: %v, want %v", got, want)
		}
	}
}

// checkTensor checks the tensor product of two algebras, or that it exceeds limits, and reports whether it
// keeps to them.
func checkTensor(t *testing.T, a sample, b sample) bool {
	t.Helper()
	name := fmt.Sprintf("%v and %v", a, b)
	got, code := impl.TensorDga(a.Dga, b.Dga)
	if !hasTensorDga(a.Dga, b.Dga) {
		expectCode(t, "TensorDga of "+name, impl.ErrLimit, all(got, code))
		return false
	}
	if got != plainTensorDga(a.Dga, b.Dga) || code != impl.ErrNone {
		t.Errorf("TensorDga of %s = %v, %d", name, got, code)
		return true
	}
	if broken := brokenConditions(got); len(broken) > 0 || !impl.IsDga(got) {
		t.Errorf("TensorDga of %s is an algebra: %v, without %v", name, impl.IsDga(got), broken)
	}
	// each of both is within the tensor product, so that one that is not graded commutative leaves it so
	expectResults(t, "IsGradedCommutative "+name, all(a.commutes && b.commutes, 0), all(impl.IsGradedCommutative(got)))
	expectResults(t, "HomologySizes "+name, all(kuennethNumbers(a.holes, b.holes), 0), all(impl.HomologySizes(got)))
	x, y := plainFiltered(a.Dga).Complex, plainFiltered(b.Dga).Complex
	both, code := impl.TensorComplexes(x, y)
	filtered, _ := impl.FilteredOf(got)
	expectResults(t, "complex of "+name, all(both, code), all(filtered.Complex, 0))
	return true
}

func TestTensorsOfSamples(t *testing.T) {
	kept, exceeding := 0, 0
	for _, p := range usualPrimes {
		list := append(samples(p), mixedSamples(p)...)
		for _, a := range list {
			for _, b := range list {
				if checkTensor(t, a, b) {
					kept++
				} else {
					exceeding++
				}
			}
		}
	}
	if kept < 400 || exceeding < 800 {
		t.Errorf("%d tensor products, %d that exceed limits", kept, exceeding)
	}
}

func TestTensorsOfSquareZeros(t *testing.T) {
	kept := 0
	for _, a := range squareZeros(8) {
		for _, b := range namedByHand(a.Prime) {
			if checkTensor(t, a, b) && b.Size > 1 {
				kept++
			}
			checkTensor(t, b, a)
		}
	}
	if kept < 20 {
		t.Errorf("%d tensor products", kept)
	}
}

// TestTensorsOfTensors has tensor products of three and four algebras, with the same homology numbers in
// both ways to join them.
func TestTensorsOfTensors(t *testing.T) {
	for _, p := range usualPrimes {
		circle, point := sampleOf(p, "circle"), sampleOf(p, "point")
		low := sample{algebraOf(p, []int64{0, 1}, []int64{0, 0}, nil), "a low circle", true, []int64{1, 1}}
		filled := sample{algebraOf(p, []int64{0, 1}, []int64{0, 1}, nil, step{1, 0, 1}), "a filled unit", true, []int64{0, 0}}
		list := []sample{circle, point, low, filled}
		for _, a := range list {
			for _, b := range list {
				for _, c := range list {
					ab, bc := tensorDga(t, a.Dga, b.Dga), tensorDga(t, b.Dga, c.Dga)
					first, second := sample{ab, a.name + " and " + b.name, true, kuennethNumbers(a.holes, b.holes)}, sample{bc, b.name + " and " + c.name, true, kuennethNumbers(b.holes, c.holes)}
					if !checkTensor(t, first, c) || !checkTensor(t, a, second) {
						t.Errorf("%v and %v and %v exceed limits", a, b, c)
					}
					checkTensor(t, first, second)
				}
			}
		}
	}
}

// TestTensorsWithPoint changes nothing.
func TestTensorsWithPoint(t *testing.T) {
	for _, s := range allSamples(2) {
		point := namedDga(t, "point", s.Prime)
		if tensorDga(t, point, s.Dga) != s.Dga || tensorDga(t, s.Dga, point) != s.Dga {
			t.Errorf("the tensor product of %v and point is another algebra", s)
		}
	}
}

// TestLimitsOfTensors has one limit reached, and then exceeded, while all others are kept.
func TestLimitsOfTensors(t *testing.T) {
	flat := func(p int64, degrees []int64, levels []int64) impl.Dga {
		return algebraOf(p, append([]int64{0}, degrees...), append([]int64{0}, levels...), nil)
	}
	sized := func(p int64, size int) impl.Dga { return flat(p, make([]int64, size-1), make([]int64, size-1)) }
	for _, p := range usualPrimes {
		expect := func(a impl.Dga, b impl.Dga, want int64) {
			for _, both := range [][2]impl.Dga{{a, b}, {b, a}} {
				got, code := impl.TensorDga(both[0], both[1])
				expectCode(t, fmt.Sprintf("TensorDga(%v, %v)", both[0], both[1]), want, all(got, code))
				if want == impl.ErrNone && got != plainTensorDga(both[0], both[1]) {
					t.Errorf("TensorDga(%v, %v) = %v", both[0], both[1], got)
				}
			}
		}
		for m := 1; m <= impl.MaxElements; m++ {
			for n := 1; n <= impl.MaxElements; n++ {
				want := int64(impl.ErrNone)
				if m*n > impl.MaxElements {
					want = impl.ErrLimit
				}
				expect(sized(p, m), sized(p, n), want)
			}
		}
		for m := range int64(impl.MaxTop + 1) {
			for n := range int64(impl.MaxTop + 1) {
				want := int64(impl.ErrNone)
				if m+n > impl.MaxTop {
					want = impl.ErrLimit
				}
				expect(flat(p, []int64{m}, []int64{0}), flat(p, []int64{n}, []int64{0}), want)
				expect(flat(p, []int64{0}, []int64{m}), flat(p, []int64{0}, []int64{n}), want)
				// the greatest level is not that of the last basis element
				expect(flat(p, []int64{0, 0}, []int64{m, 0}), flat(p, []int64{0}, []int64{n}), want)
				expect(flat(p, []int64{0}, []int64{n}), flat(p, []int64{0, 1, 1}, []int64{0, m, 0}), want)
			}
		}
	}
}
