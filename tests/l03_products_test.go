package tests

import (
	"fmt"
	"slices"
	"testing"

	"loop.example/g01273/impl"
)

// factors lists complexes modulo p of which many products keep to the limits.
func factors(p int64) []impl.Complex {
	g := &numbers{state: uint64(41 + p)}
	shapes := [][]int64{{0}, {1}, {2}, {4}, {1, 1}, {2, 1}, {0, 2}, {2, 2}, {1, 0, 1}, {1, 2, 1}, {1, 1, 1, 1}, {0, 1, 2, 1}, {2, 2, 1, 0}}
	var list []impl.Complex
	for _, dims := range shapes {
		for range 2 {
			x := impl.Complex{Prime: p, Dims: slices.Clone(dims), Maps: make([][][]int64, len(dims)-1)}
			for {
				for n := range x.Maps {
					x.Maps[n] = g.table(p, dims[n+1], dims[n])
				}
				if plainIsComplex(x) {
					break
				}
			}
			list = append(list, x)
		}
	}
	return list
}

// fits reports whether the product of two complexes keeps to the limits.
func fits(x impl.Complex, y impl.Complex) bool {
	return len(x.Dims) <= impl.MaxSide && len(y.Dims) <= impl.MaxSide && slices.Max(x.Dims)*slices.Max(y.Dims) <= impl.MaxCell
}

// plainProduct returns the product of two complexes, each number looked up by its own pairs.
func plainProduct(x impl.Complex, y impl.Complex) impl.Double {
	p, dims := x.Prime, make([][]int64, len(x.Dims))
	for i := range dims {
		for _, dim := range y.Dims {
			dims[i] = append(dims[i], x.Dims[i]*dim)
		}
	}
	product := zeroDouble(p, dims)
	for _, c := range spotsOf(product) {
		sign := []int64{1, p - 1}[c.i%2]
		for a := range x.Dims[c.i] {
			for b := range y.Dims[c.j] {
				row := a*y.Dims[c.j] + b
				for other := range dimOf([][]int64{x.Dims}, spot{0, c.i - 1}) {
					product.Across[c.i][c.j][row][other*y.Dims[c.j]+b] = x.Maps[c.i-1][a][other]
				}
				for other := range dimOf([][]int64{y.Dims}, spot{0, c.j - 1}) {
					product.Down[c.i][c.j][row][a*y.Dims[c.j-1]+other] = sign * y.Maps[c.j-1][b][other] % p
				}
			}
		}
	}
	return product
}

// productsOfNumbers returns the table of the products of the numbers of two lists.
func productsOfNumbers(a []int64, b []int64) [][]int64 {
	table := make([][]int64, len(a))
	for i, first := range a {
		for _, second := range b {
			table[i] = append(table[i], first*second)
		}
	}
	return table
}

func TestProductsByHand(t *testing.T) {
	x, code := impl.ProductDouble(parsed(t, "5:2,1:32"), parsed(t, "5:1,2:1,4"))
	expectResults(t, "ProductDouble", all(impl.Double{
		Prime:  5,
		Dims:   [][]int64{{2, 4}, {1, 2}},
		Across: [][][][]int64{{{{}, {}}, {{}, {}, {}, {}}}, {{{3, 2}}, {{3, 0, 2, 0}, {0, 3, 0, 2}}}},
		Down:   [][][][]int64{{{{}, {}}, {{1, 0}, {4, 0}, {0, 1}, {0, 4}}}, {{{}}, {{4}, {1}}}},
	}, 0), all(x, code))
	expectResults(t, "columns", all([][]int64{{0, 2}, {0, 1}}, 0), all(impl.ColumnHomology(x)))
	expectResults(t, "rows", all([][]int64{{1, 2}, {0, 0}}, 0), all(impl.RowHomology(x)))
	expectResults(t, "second", all([][]int64{{0, 1}, {0, 0}}, 0), all(impl.SecondNumbers(x, false)))
	point, code := impl.ProductDouble(parsed(t, "2:1:"), parsed(t, "2:1:"))
	expectResults(t, "of points", all(impl.Double{Prime: 2, Dims: [][]int64{{1}}, Across: [][][][]int64{{{{}}}}, Down: [][][][]int64{{{{}}}}}, 0), all(point, code))
	nothing, code := impl.ProductDouble(parsed(t, "2:0,8:-,-,-,-,-,-,-,-"), parsed(t, "2:0:"))
	expectResults(t, "with nothing", all(zeroDouble(2, [][]int64{{0}, {0}}), 0), all(nothing, code))
}

func TestProducts(t *testing.T) {
	for _, p := range []int64{2, 3, 5, 7} {
		for _, x := range factors(p) {
			for _, y := range factors(p) {
				if fits(x, y) {
					checkProduct(t, x, y)
				}
			}
		}
	}
}

// checkProduct holds a product against its pairs, and its numbers against those of both complexes.
func checkProduct(t *testing.T, x impl.Complex, y impl.Complex) {
	t.Helper()
	product, code := impl.ProductDouble(x, y)
	name := fmt.Sprintf("product of %v and %v", x, y)
	expectResults(t, name, all(plainProduct(x, y), 0), all(product, code))
	expectDouble(t, name, product)
	one, two := homologyOf(t, x), homologyOf(t, y)
	expectResults(t, "columns of "+name, all(productsOfNumbers(x.Dims, two), 0), all(impl.ColumnHomology(product)))
	expectResults(t, "rows of "+name, all(productsOfNumbers(one, y.Dims), 0), all(impl.RowHomology(product)))
	expectResults(t, "second by columns of "+name, all(productsOfNumbers(one, two), 0), all(impl.SecondNumbers(product, false)))
	expectResults(t, "second by rows of "+name, all(productsOfNumbers(one, two), 0), all(impl.SecondNumbers(product, true)))
	euler := alternatingSum([][]int64{x.Dims}) * alternatingSum([][]int64{y.Dims})
	expectResults(t, "Euler number of "+name, all(euler, 0), all(impl.DoubleEuler(product)))
	for i, copies := range x.Dims {
		column, code := impl.ColumnOf(product, int64(i))
		expectResults(t, fmt.Sprintf("column %d of %s", i, name), all(copiesOf(t, y, i, copies), 0), all(column, code))
	}
	total, code := impl.TotalOf(product)
	if !hasTotal(product) {
		expectCode(t, "total of "+name, impl.ErrLimit, all(total, code))
		return
	}
	holes := make([]int64, len(x.Dims)+len(y.Dims)-1)
	for i, first := range one {
		for j, second := range two {
			holes[i+j] += first * second
		}
	}
	expectResults(t, "homology of the total of "+name, all(holes, 0), all(homologyOf(t, total), code))
}

// copiesOf returns the sum of copies of a complex, with the differentials times (-1)^i.
func copiesOf(t *testing.T, y impl.Complex, i int, copies int64) impl.Complex {
	t.Helper()
	signed := impl.Complex{Prime: y.Prime, Dims: y.Dims}
	sum := impl.Complex{Prime: y.Prime, Dims: make([]int64, len(y.Dims)), Maps: make([][][]int64, len(y.Maps))}
	for _, table := range y.Maps {
		var rows [][]int64
		for _, row := range table {
			rows = append(rows, timesTable(y.Prime, []int64{[]int64{1, y.Prime - 1}[i%2]}, [][]int64{row}, int64(len(row))))
		}
		signed.Maps = append(signed.Maps, rows)
	}
	for range copies {
		var code int64
		if sum, code = impl.AddComplexes(sum, signed); code != impl.ErrNone {
			t.Fatalf("AddComplexes: code %d", code)
		}
	}
	return sum
}

func TestProductsAtTheirLimits(t *testing.T) {
	for a := int64(0); a <= impl.MaxDim; a++ {
		for b := int64(0); b <= impl.MaxDim; b++ {
			want := int64(impl.ErrNone)
			if a*b > impl.MaxCell {
				want = impl.ErrLimit
			}
			x, y := complexOf(3, []int64{a}), complexOf(3, []int64{b})
			expectCode(t, fmt.Sprintf("%d times %d", a, b), want, all(impl.ProductDouble(x, y)))
			x, y = complexOf(3, []int64{0, a}, zeros(a, 0)), complexOf(3, []int64{1, 0, b}, nil, zeros(b, 0))
			if a > impl.MaxCell {
				want = impl.ErrLimit
			}
			expectCode(t, fmt.Sprintf("%d times 1 and %d", a, b), want, all(impl.ProductDouble(x, y)))
		}
	}
	for w := range impl.MaxTop + 1 {
		for h := range impl.MaxTop + 1 {
			want := int64(impl.ErrNone)
			if w >= impl.MaxSide || h >= impl.MaxSide {
				want = impl.ErrLimit
			}
			x, y := complexOf(7, make([]int64, w+1), make([][][]int64, w)...), complexOf(7, make([]int64, h+1), make([][][]int64, h)...)
			expectCode(t, fmt.Sprintf("tops %d and %d", w, h), want, all(impl.ProductDouble(x, y)))
		}
	}
}

func TestErrorsOfProducts(t *testing.T) {
	good, large, other := complexOf(3, []int64{1}), complexOf(3, []int64{5}), complexOf(5, []int64{8})
	long := complexOf(5, make([]int64, 6), make([][][]int64, 5)...)
	for _, x := range noComplexes() {
		for _, y := range []impl.Complex{good, large, other, long, x} { // also ahead of other errors
			expectCode(t, fmt.Sprintf("ProductDouble(%v, %v)", x, y), impl.ErrInvalid, all(impl.ProductDouble(x, y)))
			expectCode(t, fmt.Sprintf("ProductDouble(%v, %v)", y, x), impl.ErrInvalid, all(impl.ProductDouble(y, x)))
		}
	}
	for _, y := range []impl.Complex{complexOf(2, []int64{1}), complexOf(5, []int64{0}), other, long} { // also ahead of the limits
		expectCode(t, fmt.Sprintf("ProductDouble(%v, %v)", large, y), impl.ErrRange, all(impl.ProductDouble(large, y)))
		expectCode(t, fmt.Sprintf("ProductDouble(%v, %v)", y, good), impl.ErrRange, all(impl.ProductDouble(y, good)))
	}
}
