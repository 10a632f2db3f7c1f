package tests

import (
	"fmt"
	"slices"
	"testing"

	"loop.example/g01273/impl"
)

func TestPageProductsByHand(t *testing.T) {
	for _, p := range usualPrimes {
		torus, disc := namedDga(t, "torus", p), namedDga(t, "disc", p)
		filled := sampleOf(p, "a hole beside a product that is filled").Dga
		low := sampleOf(p, "a torus with a low product").Dga
		powers := sampleOf(p, "powers of a source of the unit").Dga
		for _, c := range []struct {
			a                   impl.Dga
			r, n, q, i, m, l, j int64
			want                []int64
		}{
			{torus, 0, 1, 1, 0, 1, 1, 1, []int64{1}},
			{torus, 1, 1, 1, 0, 1, 1, 1, []int64{1}},
			{torus, 8, 1, 1, 1, 1, 1, 0, []int64{p - 1}},
			{torus, 2, 1, 1, 1, 1, 1, 1, []int64{0}},
			{torus, 2, 0, 0, 0, 1, 1, 1, []int64{0, 1}},
			{torus, 2, 1, 1, 0, 2, 2, 0, []int64{}},
			// the page 0 has t, x and t x at their levels, on the page 1 t is the boundary of x
			{disc, 0, 0, 1, 0, 1, 1, 0, []int64{1}},
			{disc, 0, 0, 1, 0, 0, 1, 0, []int64{}},
			{disc, 0, 1, 1, 0, 1, 1, 0, []int64{}},
			{disc, 1, 0, 0, 0, 1, 2, 0, []int64{1}},
			{disc, 8, 1, 2, 0, 0, 0, 0, []int64{1}},
			// w and x y stand at 2 and 2 up to the page 1; then x y is a boundary
			{filled, 1, 1, 1, 0, 1, 1, 1, []int64{0, 1}},
			{filled, 1, 1, 1, 1, 1, 1, 0, []int64{0, p - 1}},
			{filled, 2, 1, 1, 0, 1, 1, 1, []int64{0}},
			{filled, 8, 1, 1, 1, 1, 1, 0, []int64{0}},
			{filled, 1, 1, 1, 0, 2, 2, 1, []int64{0}},
			{filled, 2, 1, 1, 0, 2, 2, 0, []int64{}},
			// a product of a lower level than both together is 0 there
			{low, 0, 1, 2, 0, 1, 3, 0, []int64{}},
			{low, 3, 1, 2, 0, 1, 3, 0, []int64{}},
			{low, 0, 0, 0, 0, 2, 1, 0, []int64{1}},
			// up to the level 5 of 2 and 3
			{powers, 0, 2, 2, 0, 3, 3, 0, []int64{1}},
			{powers, 0, 5, 5, 0, 0, 0, 0, []int64{1}},
			{powers, 1, 2, 2, 0, 3, 3, 0, []int64{1}},
			{powers, 0, 3, 3, 0, 2, 2, 0, []int64{1}},
		} {
			expectResults(t, fmt.Sprintf("PageProduct(%v, %d, %d, %d, %d, %d, %d, %d)", c.a, c.r, c.n, c.q, c.i, c.m, c.l, c.j), all(c.want, 0), all(impl.PageProduct(c.a, c.r, c.n, c.q, c.i, c.m, c.l, c.j)))
		}
		// the page 2 has nothing left, not even the unit, nor has the page 1 anything at the level 2 and the degree 2
		expectCode(t, "PageProduct of units", impl.ErrRange, all(impl.PageProduct(powers, 2, 0, 0, 0, 0, 0, 0)))
	}
}

// classPlace tells a vector of a page basis.
type classPlace struct{ n, q, i int64 }

// pagesBy has the bases and the bottoms of a page of a filtered complex.
type pagesBy struct {
	x              impl.Filtered
	bases, bottoms map[[2]int64][][]int64
	places         []classPlace
}

// pageBy returns the page r of the filtered complex of an algebra.
func pageBy(a impl.Dga, r int64) pagesBy {
	page := pagesBy{plainFiltered(a), map[[2]int64][][]int64{}, map[[2]int64][][]int64{}, nil}
	for n := range int64(len(page.x.Levels)) {
		for q := range int64(impl.MaxLevel + 1) {
			basis, _ := impl.PageBasis(page.x, r, n, q)
			bottom, _ := impl.BottomOf(page.x, r, n, q)
			page.bases[[2]int64{n, q}], page.bottoms[[2]int64{n, q}] = basis, bottom
			for i := range basis {
				page.places = append(page.places, classPlace{n, q, int64(i)})
			}
		}
	}
	return page
}

// element returns a vector of a page basis as an element.
func (page pagesBy) element(a impl.Dga, c classPlace) impl.Element {
	return elementWith(a, page.bases[[2]int64{c.n, c.q}][c.i], c.n)
}

// numbersOf returns the numbers of a vector of a degree and a level in the page basis there.
func (page pagesBy) numbersOf(a impl.Dga, u impl.Element, n int64, q int64) []int64 {
	if n >= int64(len(page.x.Levels)) {
		return []int64{}
	}
	return plainClass(a.Prime, page.x.Complex.Dims[n], page.bases[[2]int64{n, q}], page.bottoms[[2]int64{n, q}], rowAt(a, u, n))
}

// TestPageProductsOfSamples has products of vectors of page bases of the first pages, of later ones and of
// the last one.
func TestPageProductsOfSamples(t *testing.T) {
	g := &numbers{state: 136}
	others, levels, tops, beyond, refused := map[int64]int{}, 0, 0, 0, 0
	for _, s := range allSamples(1) {
		top := s.Degrees[s.Size-1]
		for _, r := range []int64{0, 1, 2, 3, impl.MaxPage} {
			page := pageBy(s.Dga, r)
			for _, c := range page.places {
				for _, d := range page.places {
					if len(page.places) > 4 && g.below(3) > 0 {
						continue
					}
					name := fmt.Sprintf("PageProduct(%v, %d, %v, %v)", s, r, c, d)
					got, code := impl.PageProduct(s.Dga, r, c.n, c.q, c.i, d.n, d.q, d.i)
					if c.q+d.q > impl.MaxLevel {
						expectCode(t, name, impl.ErrRange, all(got, code))
						refused++
						continue
					}
					product := plainMultiply(s.Dga, page.element(s.Dga, c), page.element(s.Dga, d))
					want := page.numbersOf(s.Dga, product, c.n+d.n, c.q+d.q)
					expectResults(t, name, all(want, 0), all(got, code))
					if min(c.n, d.n) > 0 && !isZeroRow(want) {
						others[r]++
					}
					if c.q+d.q == impl.MaxLevel {
						levels++
					}
					if c.n+d.n == top {
						tops++
					} else if c.n+d.n > top {
						beyond++
					}
				}
			}
		}
	}
	if others[0] < 40 || others[3] < 20 || others[impl.MaxPage] < 10 || levels < 200 || tops < 500 || beyond < 300 || refused < 100 {
		t.Errorf("%v products of greater degrees, %d of MaxLevel, %d of the top, %d beyond, %d of too great levels", others, levels, tops, beyond, refused)
	}
}

// TestPageProductsWithTheUnit has the unit as a sum of the vectors of the page basis at 0 and 0.
func TestPageProductsWithTheUnit(t *testing.T) {
	gone := 0
	for _, s := range allSamples(1) {
		for _, r := range []int64{0, 1, 2, 4, impl.MaxPage} {
			page := pageBy(s.Dga, r)
			unit := page.numbersOf(s.Dga, unitAt(0), 0, 0)
			if isZeroRow(unit) {
				gone++
			}
			for _, c := range page.places {
				size := int64(len(page.bases[[2]int64{c.n, c.q}]))
				left := timesUnit(s.Prime, size, unit, func(k int64) []int64 {
					numbers, _ := impl.PageProduct(s.Dga, r, 0, 0, k, c.n, c.q, c.i)
					return numbers
				})
				right := timesUnit(s.Prime, size, unit, func(k int64) []int64 {
					numbers, _ := impl.PageProduct(s.Dga, r, c.n, c.q, c.i, 0, 0, k)
					return numbers
				})
				want := basisOf(size)[c.i]
				if !slices.Equal(left, want) || !slices.Equal(right, want) {
					t.Errorf("%v: the vector %v of the page %d times the unit: %v and %v", s, c, r, left, right)
				}
			}
		}
	}
	if gone < 10 {
		t.Errorf("%d pages without a unit", gone)
	}
}

// TestPageProductsWithoutLevels has the homology products on the page 1, if all levels are 0.
func TestPageProductsWithoutLevels(t *testing.T) {
	for _, s := range allSamples(1) {
		flat := with(s.Dga, func(a *impl.Dga) { a.Levels = [8]int64{} })
		for n, holes := range s.holes {
			for m, others := range s.holes {
				for i := range holes {
					for j := range others {
						numbers, code := impl.HomologyProduct(s.Dga, int64(n), i, int64(m), j)
						expectResults(t, fmt.Sprintf("PageProduct(%v, %d, %d, %d, %d)", s, n, i, m, j), all(numbers, code), all(impl.PageProduct(flat, 1, int64(n), 0, i, int64(m), 0, j)))
						expectResults(t, fmt.Sprintf("HomologyProduct(%v, %d, %d, %d, %d)", s, n, i, m, j), all(numbers, code), all(impl.HomologyProduct(flat, int64(n), i, int64(m), j)))
					}
				}
			}
		}
	}
}
