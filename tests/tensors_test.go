package tests

import (
	"fmt"
	"slices"

	"loop.example/g01273/impl"
)

// The functions of this file find tensor products and the maps between them in the plainest way, each
// number looked up by its own pairs, and make pairs of complexes and of chain maps of known homology.

// pairLabel is a pair of basis vectors: a of the degree i, and b of the degree j.
type pairLabel struct{ i, a, j, b int64 }

// swapped returns the pair in the other order.
func (from pairLabel) swapped() pairLabel { return pairLabel{from.j, from.b, from.i, from.a} }

// pairLabels lists the pairs of the degree n, in order.
func pairLabels(x impl.Complex, y impl.Complex, n int64) []pairLabel {
	var list []pairLabel
	for i := range int64(len(x.Dims)) {
		for a := range x.Dims[i] {
			for b := range dimIn(y, n-i) {
				list = append(list, pairLabel{i, a, n - i, b})
			}
		}
	}
	return list
}

// plainTensorDims counts the pairs of each degree.
func plainTensorDims(x impl.Complex, y impl.Complex) []int64 {
	dims := make([]int64, len(x.Dims)+len(y.Dims)-1)
	for i, a := range x.Dims {
		for j, b := range y.Dims {
			dims[i+j] += a * b
		}
	}
	return dims
}

// hasTensor reports whether the tensor product keeps to the limits.
func hasTensor(x impl.Complex, y impl.Complex) bool {
	dims := plainTensorDims(x, y)
	return len(dims) <= impl.MaxTop+1 && slices.Max(dims) <= impl.MaxDim
}

// withSign returns (-1)^k times a number modulo p.
func withSign(p int64, k int64, number int64) int64 {
	if k%2 == 0 {
		return number
	}
	return (p - number) % p
}

// plainTensor returns the tensor product, also if it exceeds limits.
func plainTensor(x impl.Complex, y impl.Complex) impl.Complex {
	product := impl.Complex{Prime: x.Prime, Dims: plainTensorDims(x, y)}
	for n := int64(1); int(n) < len(product.Dims); n++ {
		product.Maps = append(product.Maps, tableOf(pairLabels(x, y, n), pairLabels(x, y, n-1), func(from pairLabel, to pairLabel) int64 {
			switch {
			case from.j == to.j && from.b == to.b:
				return x.Maps[to.i][from.a][to.a]
			case from.i == to.i && from.a == to.a:
				return withSign(x.Prime, from.i, y.Maps[to.j][from.b][to.b])
			}
			return 0
		}))
	}
	return product
}

// plainPair returns the pair vector of u of the degree i and v of the degree j.
func plainPair(x impl.Complex, y impl.Complex, i int64, u []int64, j int64, v []int64) []int64 {
	row := []int64{}
	for _, to := range pairLabels(x, y, i+j) {
		number := int64(0)
		if to.i == i {
			number = u[to.a] * v[to.b] % x.Prime
		}
		row = append(row, number)
	}
	return row
}

// plainSwap returns the swap.
func plainSwap(x impl.Complex, y impl.Complex) tables {
	f := tables{}
	for n := range plainTensorDims(x, y) {
		f = append(f, tableOf(pairLabels(x, y, int64(n)), pairLabels(y, x, int64(n)), func(from pairLabel, to pairLabel) int64 {
			if to != from.swapped() {
				return 0
			}
			return withSign(x.Prime, from.i*from.j, 1)
		}))
	}
	return f
}

// mapPair is two maps of which the product is found.
type mapPair struct{ f, g knownMap }

// source returns the complexes from which the maps lead.
func (m mapPair) source() (impl.Complex, impl.Complex) { return m.f.X.Complex, m.g.X.Complex }

// target returns the complexes to which the maps lead.
func (m mapPair) target() (impl.Complex, impl.Complex) { return m.f.Y.Complex, m.g.Y.Complex }

// fits reports whether the product of the maps keeps to the limits.
func (m mapPair) fits() bool { return hasTensor(m.source()) && hasTensor(m.target()) }

// product calls ProductFamily.
func (m mapPair) product() (tables, int64) {
	return impl.ProductFamily(m.f.X.Complex, m.f.Y.Complex, m.f.F, m.g.X.Complex, m.g.Y.Complex, m.g.F)
}

// name prints the maps.
func (m mapPair) name() string { return m.f.name() + " and " + m.g.name() }

// plainProductFamily returns the product of maps.
func plainProductFamily(m mapPair) tables {
	x, y := m.source()
	u, v := m.target()
	product := tables{}
	for n := range plainTensorDims(x, y) {
		product = append(product, tableOf(pairLabels(x, y, int64(n)), pairLabels(u, v, int64(n)), func(from pairLabel, to pairLabel) int64 {
			if to.i != from.i {
				return 0
			}
			return m.f.F[from.i][from.a][to.a] * m.g.F[from.j][from.b][to.b] % x.Prime
		}))
	}
	return product
}

// plainKuenneth returns the sum, over all i, of the numbers of a at i times those of b at n - i.
func plainKuenneth(a []int64, b []int64, n int) int64 {
	sum := int64(0)
	for i, first := range a {
		for j, second := range b {
			if i+j == n {
				sum += first * second
			}
		}
	}
	return sum
}

// kuennethNumbers returns the Kuenneth numbers of all degrees of a tensor product.
func kuennethNumbers(a []int64, b []int64) []int64 {
	var list []int64
	for n := range len(a) + len(b) - 1 {
		list = append(list, plainKuenneth(a, b, n))
	}
	return list
}

// holesByRanks counts the homology numbers, also of a complex that exceeds limits.
func holesByRanks(x impl.Complex) []int64 {
	holes := slices.Clone(x.Dims)
	for k, table := range x.Maps {
		rank := int64(plainRank(x.Prime, table))
		holes[k] -= rank
		holes[k+1] -= rank
	}
	return holes
}

// knownPair is two complexes with the same Prime of which the homology numbers are known.
type knownPair struct{ X, Y known }

// name prints the complexes.
func (k knownPair) name() string { return fmt.Sprintf("%v and %v", k.X.Complex, k.Y.Complex) }

// knownPairs lists pairs of complexes of all primes and tops, with homology numbers and ranks less than
// the bounds.
func knownPairs(each int, holes int64, ranks int64) []knownPair {
	g := &numbers{state: uint64(71 + holes)}
	var list []knownPair
	for _, p := range usualPrimes {
		for top := range int64(impl.MaxTop + 1) {
			for other := range int64(impl.MaxTop + 1) {
				for range each {
					list = append(list, knownPair{knownWith(g, p, top, holes, ranks), knownWith(g, p, other, holes, ranks)})
				}
			}
		}
	}
	return list
}

// fullPair returns complexes of all dimensions MaxDim, with all differentials of the rank 4.
func fullPair(p int64) knownPair {
	g := &numbers{state: uint64(73 + p)}
	full := func() known {
		k := known{Ranks: []int64{0, 4, 4, 4, 4, 4, 0}, Holes: []int64{4, 0, 0, 0, 0, 4}}
		k.build(p)
		for range 200 {
			k.changeBasis(g)
		}
		return k
	}
	return knownPair{full(), full()}
}

// mapPairs lists pairs of chain maps of all primes and of the tops of which products keep to the limits;
// every second one of both is a quasi isomorphism.
func mapPairs(each int) []mapPair {
	g := &numbers{state: 72}
	var list []mapPair
	for _, p := range usualPrimes {
		for top := range int64(impl.MaxTop + 1) {
			for other := range impl.MaxTop + 1 - top {
				for range each {
					list = append(list, mapPair{anyMap(g, p, top, 2, 2), anyMap(g, p, other, 2, 2)}, mapPair{quasiMap(g, p, top, 2, 2), anyMap(g, p, other, 2, 2)},
						mapPair{anyMap(g, p, top, 2, 2), quasiMap(g, p, other, 2, 2)}, mapPair{quasiMap(g, p, top, 2, 2), quasiMap(g, p, other, 2, 2)})
				}
			}
		}
	}
	return list
}
