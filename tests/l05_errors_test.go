package tests

import (
	"fmt"
	"reflect"
	"slices"
	"testing"

	"loop.example/g01273/impl"
)

// call5 is a call of a function of chapter 5.
type call5 struct {
	name string
	run  func() []any
}

// callsWith5 lists the functions of chapter 5 that take one couple and return a code, first those for
// exact couples alone.
func callsWith5(c impl.Couple, n int64) []call5 {
	return []call5{
		{"DerivedCouple", func() []any { return all(impl.DerivedCouple(c)) }},
		{"StablePage", func() []any { return all(impl.StablePage(c)) }},
		{"PageSizes", func() []any { return all(impl.PageSizes(c, n)) }},
		{"IsExact", func() []any { return all(impl.IsExact(c)) }},
		{"CoupleDifferential", func() []any { return all(impl.CoupleDifferential(c)) }},
		{"RanksOf", func() []any { return all(impl.RanksOf(c)) }},
	}
}

// forExactCouples is the number of the calls for exact couples alone.
const forExactCouples = 3

// brokenTables lists what arises from a couple by one change of one of its tables.
func brokenTables(c impl.Couple) []impl.Couple {
	var list []impl.Couple
	bad := append([]int64{c.Prime, c.Prime + 1, 5 + c.Prime}, farNumbers...)
	for _, i := range changesOf(reflect.ValueOf(c.I), bad) {
		list = append(list, coupleOf(c.Prime, c.D, c.E, i.Interface().([][]int64), c.J, c.K))
	}
	for _, j := range changesOf(reflect.ValueOf(c.J), bad) {
		list = append(list, coupleOf(c.Prime, c.D, c.E, c.I, j.Interface().([][]int64), c.K))
	}
	for _, k := range changesOf(reflect.ValueOf(c.K), bad) {
		list = append(list, coupleOf(c.Prime, c.D, c.E, c.I, c.J, k.Interface().([][]int64)))
	}
	return list
}

// brokenNumbers lists what arises from a couple by another Prime, D or E.
func brokenNumbers(c impl.Couple) []impl.Couple {
	var list []impl.Couple
	for _, p := range append([]int64{0, 1, 4, 6, 8, 9, 10, 11, 13, 25, 49, -3, -5, -7}, farNumbers...) {
		list = append(list, coupleOf(p, c.D, c.E, c.I, c.J, c.K))
	}
	for _, n := range append([]int64{-1, impl.MaxCouple + 1, 1000}, farNumbers...) {
		list = append(list, coupleOf(c.Prime, n, c.E, c.I, c.J, c.K), coupleOf(c.Prime, c.D, n, c.I, c.J, c.K))
	}
	for _, more := range []int64{-1, 1} {
		if c.D > 0 || c.E > 0 || more > 0 {
			list = append(list, coupleOf(c.Prime, c.D+more, c.E, c.I, c.J, c.K), coupleOf(c.Prime, c.D, c.E+more, c.I, c.J, c.K))
		}
	}
	return list
}

// zeroCouple returns the couple, or what is none, of the given dimensions with zeros alone.
func zeroCouple(p int64, d int64, e int64) impl.Couple {
	return coupleOf(p, d, e, zeros(d, d), zeros(d, e), zeros(e, d))
}

// noCouples lists what is no couple.
func noCouples() []impl.Couple {
	g := &numbers{state: 61}
	list := []impl.Couple{
		{}, coupleOf(3, -1, 0, nil, nil, nil), coupleOf(3, 0, -1, nil, nil, nil), coupleOf(3, -1, -1, nil, nil, nil),
		// numbers of rows and columns that are right for the other dimension
		coupleOf(3, 2, 1, zeros(1, 1), zeros(2, 1), zeros(1, 2)), coupleOf(3, 2, 1, zeros(2, 2), zeros(1, 2), zeros(1, 2)),
		coupleOf(3, 2, 1, zeros(2, 2), zeros(2, 1), zeros(2, 1)), coupleOf(3, 2, 1, zeros(2, 1), zeros(2, 2), zeros(1, 2)),
		coupleOf(3, 2, 1, zeros(2, 2), zeros(2, 2), zeros(1, 2)), coupleOf(3, 2, 1, zeros(2, 2), zeros(2, 1), zeros(1, 1)),
		// tables without numbers need their rows, and dimensions of 0 no rows
		coupleOf(3, 2, 0, zeros(2, 2), nil, nil), coupleOf(3, 2, 0, zeros(2, 2), zeros(1, 0), nil), coupleOf(3, 2, 0, zeros(2, 2), zeros(2, 0), zeros(1, 2)),
		coupleOf(3, 0, 2, nil, nil, nil), coupleOf(3, 0, 2, nil, nil, zeros(1, 0)), coupleOf(3, 0, 2, nil, zeros(1, 2), zeros(2, 0)),
		coupleOf(3, 0, 0, zeros(1, 0), nil, nil), coupleOf(3, 0, 0, nil, zeros(1, 0), nil), coupleOf(3, 0, 0, nil, nil, zeros(1, 0)),
	}
	for _, p := range []int64{2, 7} {
		list = append(list, zeroCouple(p, 25, 0), zeroCouple(p, 0, 25), zeroCouple(p, 25, 25), zeroCouple(p, 24, 25), zeroCouple(p, 25, 24), zeroCouple(p, 1000, 0))
		for _, k := range []knownCouple{mixed(g, p, 0), mixed(g, p, 1), mixed(g, p, 0, 1), mixed(g, p, 1, 2)} {
			list = append(list, brokenTables(k.Couple)...)
			list = append(list, brokenNumbers(k.Couple)...)
		}
		list = append(list, brokenTables(randomCouple(g, p, 1, 2))...)
		list = append(list, brokenTables(randomCouple(g, p, 2, 1))...)
		list = append(list, brokenTables(randomCouple(g, p, 0, 2))...)
		list = append(list, brokenTables(randomCouple(g, p, 2, 0))...)
		list = append(list, brokenNumbers(mixed(g, p, 0, equalBlocks(12, 2)...).Couple)...)
	}
	return list
}

// numbersOfPages are numbers of pages in their range and out of it.
var numbersOfPages = append([]int64{1, 2, impl.MaxDerive, 0, impl.MaxDerive + 1, impl.MaxDerive + 2, 1 << 32, 1<<32 + 1}, farNumbers...)

func TestWhatIsNoCouple(t *testing.T) {
	other := randomCouple(&numbers{state: 62}, 5, 24, 24) // another prime and too great a sum: the invalid one is found first
	for _, c := range noCouples() {
		if impl.IsCouple(c) {
			t.Errorf("IsCouple(%v) = true", c)
		}
		for at, n := range numbersOfPages {
			for _, call := range callsWith5(c, n) {
				if at == 0 || call.name == "PageSizes" {
					expectCode(t, fmt.Sprintf("%s(%v) with %d", call.name, c, n), impl.ErrInvalid, call.run())
				}
			}
		}
		expectCode(t, fmt.Sprint("AddCouples with first ", c), impl.ErrInvalid, all(impl.AddCouples(c, other)))
		expectCode(t, fmt.Sprint("AddCouples with second ", c), impl.ErrInvalid, all(impl.AddCouples(other, c)))
		expectCode(t, fmt.Sprint("AddCouples with both ", c), impl.ErrInvalid, all(impl.AddCouples(c, c)))
	}
}

// TestWhatIsACouple has couples of all dimensions, exact or not.
func TestWhatIsACouple(t *testing.T) {
	g := &numbers{state: 63}
	for _, p := range []int64{2, 3, 5, 7} {
		for _, d := range []int64{0, 1, 5, 23, 24} {
			for _, e := range []int64{0, 1, 6, 23, 24} {
				c := randomCouple(g, p, d, e)
				if !impl.IsCouple(c) || !impl.IsCouple(zeroCouple(p, d, e)) {
					t.Errorf("IsCouple(%v) = false", c)
				}
				places := exactPlaces(c)
				expectExactness(t, fmt.Sprint(c), places == [3]bool{true, true, true}, c)
				expectResults(t, "CoupleDifferential", all(plainCoupleDifferential(c), 0), all(impl.CoupleDifferential(c)))
				ranks := []int{plainRank(p, c.I), plainRank(p, c.J), plainRank(p, c.K)}
				expectResults(t, "RanksOf", all(ranks, 0), all(impl.RanksOf(c)))
			}
		}
	}
	// rows without numbers may be nil or empty, and lists without rows as well
	for _, c := range []impl.Couple{
		coupleOf(3, 1, 0, [][]int64{{2}}, [][]int64{nil}, [][]int64{}), coupleOf(3, 1, 0, [][]int64{{2}}, [][]int64{{}}, nil), coupleOf(3, 0, 0, [][]int64{}, nil, [][]int64{}),
	} {
		expectExactness(t, fmt.Sprint(c), true, c)
		expectResults(t, "DerivedCouple", all(c, 0), all(impl.DerivedCouple(c)))
	}
	expectNotExact(t, "without D", coupleOf(3, 0, 1, nil, nil, [][]int64{nil}))
}

// TestNumbersOfPages has numbers of pages in their range and out of it, of couples that are exact and
// of such as are not.
func TestNumbersOfPages(t *testing.T) {
	g := &numbers{state: 64}
	for _, p := range []int64{2, 7} {
		for _, c := range []impl.Couple{mixed(g, p, 0).Couple, mixed(g, p, 2, 3, 1).Couple, mixed(g, p, 24).Couple, zeroCouple(p, 1, 1), zeroCouple(p, 24, 24)} {
			exact, _ := impl.IsExact(c)
			for _, n := range numbersOfPages {
				want := int64(impl.ErrNone)
				if n < 1 || n > impl.MaxDerive {
					want = impl.ErrRange
				} else if !exact {
					want = impl.ErrState
				}
				sizes, code := impl.PageSizes(c, n)
				expectCode(t, fmt.Sprintf("PageSizes of %v to %d", c, n), want, all(sizes, code))
				if want == impl.ErrNone && int64(len(sizes)) != n {
					t.Errorf("PageSizes to %d has %d numbers", n, len(sizes))
				}
			}
		}
	}
}

// TestCouplesThatAreNotExact has only those functions fail that need exact couples.
func TestCouplesThatAreNotExact(t *testing.T) {
	g := &numbers{state: 65}
	for _, p := range []int64{2, 3, 5, 7} {
		for _, c := range []impl.Couple{zeroCouple(p, 1, 1), zeroCouple(p, 24, 24), zeroCouple(p, 0, 1), zeroCouple(p, 1, 0), randomCouple(g, p, 5, 4), randomCouple(g, p, 3, 24)} {
			for at, call := range callsWith5(c, 3) {
				want := int64(impl.ErrNone)
				if at < forExactCouples {
					want = impl.ErrState
				}
				expectCode(t, fmt.Sprintf("%s of %v", call.name, c), want, call.run())
			}
			expectNotExact(t, fmt.Sprint(c), c)
		}
	}
}

func TestErrorsOfSumsOfCouples(t *testing.T) {
	g := &numbers{state: 66}
	for _, p := range []int64{2, 3, 5, 7} {
		for _, q := range []int64{2, 3, 5, 7} {
			for _, s := range [][4]int64{{0, 0, 0, 0}, {2, 2, 1, 3}, {1, 0, 0, 1}, {24, 24, 0, 0}, {24, 24, 24, 24}, {13, 0, 12, 0}, {0, 13, 0, 12}} {
				want := int64(impl.ErrNone)
				if p != q {
					want = impl.ErrRange
				} else if s[0]+s[2] > 24 || s[1]+s[3] > 24 {
					want = impl.ErrLimit
				}
				// numbers of zeros alone are numbers modulo each prime
				a, b := zeroCouple(p, s[0], s[1]), zeroCouple(q, s[2], s[3])
				expectCode(t, fmt.Sprint("AddCouples ", p, q, s), want, all(impl.AddCouples(a, b)))
				a, b = randomCouple(g, p, s[0], s[1]), randomCouple(g, q, s[2], s[3])
				expectCode(t, fmt.Sprint("AddCouples ", p, q, s), want, all(impl.AddCouples(a, b)))
			}
		}
	}
}

// TestErrorsOfCouplesOfMaps has something wrong with the complex, with the lists of the family, and
// families that are no chain maps.
func TestErrorsOfCouplesOfMaps(t *testing.T) {
	g := &numbers{state: 67}
	loose := 0
	for _, m := range selfMaps(1) {
		x, p := m.X.Complex, m.X.Prime
		if 2*(sumOf(m.X.Holes)-sumOf(m.Ranks)) > impl.MaxCouple {
			continue
		}
		expectCode(t, "CoupleOfMap", impl.ErrNone, all(impl.CoupleOfMap(x, m.F)))
		wrong := changesOf(reflect.ValueOf(m.F), append([]int64{p, p + 1, 5 + p}, farNumbers...))
		for range 40 {
			f := wrong[g.below(int64(len(wrong)))].Interface().(tables)
			expectCode(t, fmt.Sprintf("CoupleOfMap of %v by %v", x, f), impl.ErrRange, all(impl.CoupleOfMap(x, f)))
		}
		for range 4 {
			f, ok := changed(g, p, m.F)
			if !ok || plainIsChainMap(x, x, f) {
				continue
			}
			loose++
			expectCode(t, fmt.Sprintf("CoupleOfMap of %v by %v", x, f), impl.ErrState, all(impl.CoupleOfMap(x, f)))
			wrong := changesOf(reflect.ValueOf(f), []int64{p, -1}) // no chain map, and no family either
			both := wrong[g.below(int64(len(wrong)))].Interface().(tables)
			expectCode(t, fmt.Sprintf("CoupleOfMap of %v by %v", x, both), impl.ErrRange, all(impl.CoupleOfMap(x, both)))
		}
	}
	if loose < 20 {
		t.Errorf("%d families that are no chain maps", loose)
	}
}

// TestEachErrorOfCouplesOfMaps has all wrong lists of families of few vectors, one by one.
func TestEachErrorOfCouplesOfMaps(t *testing.T) {
	for _, text := range []string{"2:1:", "3:2,1:12", "5:1,0,1:-;-", "7:1,1,1:1;0", "2:0:", "3:0,2:-,-"} {
		x := parsed(t, text)
		for _, f := range []tables{identityOf(t, x), zeroOf(t, x, x, 0)} {
			expectCode(t, "CoupleOfMap of "+text, impl.ErrNone, all(impl.CoupleOfMap(x, f)))
			for _, bad := range changesOf(reflect.ValueOf(f), append([]int64{x.Prime, x.Prime + 1, 5 + x.Prime}, farNumbers...)) {
				family := bad.Interface().(tables)
				expectCode(t, fmt.Sprintf("CoupleOfMap of %s by %v", text, family), impl.ErrRange, all(impl.CoupleOfMap(x, family)))
			}
			for _, family := range []tables{nil, {}, {nil}, {{}}, {{{}}}} {
				if !slices.EqualFunc(family, f, func(a [][]int64, b [][]int64) bool { return fmt.Sprint(a) == fmt.Sprint(b) }) {
					expectCode(t, fmt.Sprintf("CoupleOfMap of %s by %v", text, family), impl.ErrRange, all(impl.CoupleOfMap(x, family)))
				}
			}
		}
	}
	x := flatOf(3, 2, 1, 0)
	other := flatOf(3, 1, 2, 2)
	for _, f := range []tables{zeroOf(t, x, other, 0), zeroOf(t, other, x, 0), zeroOf(t, other, other, 0), zeroOf(t, x, x, 1)} {
		expectCode(t, fmt.Sprint("CoupleOfMap by ", f), impl.ErrRange, all(impl.CoupleOfMap(x, f)))
	}
}

// TestComplexesThatAreNoneForCouples has no complex, and a family that fits to nothing or to it.
func TestComplexesThatAreNoneForCouples(t *testing.T) {
	for _, bad := range noComplexes() {
		families := []tables{nil, {{{1}}}, {{{0}}, {{0}}}, {{{1}}, {{1}}, {{1}}}, {{{-1}}}}
		for _, f := range families {
			expectCode(t, fmt.Sprintf("CoupleOfMap of %v by %v", bad, f), impl.ErrInvalid, all(impl.CoupleOfMap(bad, f)))
		}
	}
}

// TestStatesAheadOfLimits has families of complexes with too many classes: such as are none, such as are
// no chain maps, and chain maps.
func TestStatesAheadOfLimits(t *testing.T) {
	x := flatOf(3, 8, 8, 8, 8, 8, 8)
	x.Maps[2][3][4] = 2 // of the vector 3 of the degree 3, so that 46 classes are left
	f := identityOf(t, x)
	expectCode(t, "CoupleOfMap of a chain map", impl.ErrLimit, all(impl.CoupleOfMap(x, f)))
	f[3][3][3] = 2
	expectCode(t, "CoupleOfMap of no chain map", impl.ErrState, all(impl.CoupleOfMap(x, f)))
	f[5][0][0] = 3
	expectCode(t, "CoupleOfMap of no family", impl.ErrRange, all(impl.CoupleOfMap(x, f)))
	f[5] = f[5][:7]
	expectCode(t, "CoupleOfMap of no family", impl.ErrRange, all(impl.CoupleOfMap(x, f)))
	x.Maps[3][4][3] = 1 // what leads to the vector 3 of the degree 3, and then on
	expectCode(t, "CoupleOfMap of no complex", impl.ErrInvalid, all(impl.CoupleOfMap(x, f)))
}

// expectPure5 checks that all functions of chapter 5 are pure for these arguments.
func expectPure5(t *testing.T, c impl.Couple, d impl.Couple, x impl.Complex, f tables) {
	t.Helper()
	args := all(c, d, x, f)
	for _, n := range []int64{1, 3, impl.MaxDerive, 0, -5} {
		for _, call := range callsWith5(c, n) {
			if n == 1 || call.name == "PageSizes" {
				checkPure(t, call.name, args, call.run)
			}
		}
	}
	checkPure(t, "IsCouple", args, func() []any { return all(impl.IsCouple(c)) })
	checkPure(t, "AddCouples", args, func() []any { return all(impl.AddCouples(c, d)) })
	checkPure(t, "AddCouples of the same", args, func() []any { return all(impl.AddCouples(c, c)) })
	checkPure(t, "CoupleOfMap", args, func() []any { return all(impl.CoupleOfMap(x, f)) })
}

func TestFunctionsOfChapter5ArePure(t *testing.T) {
	g := &numbers{state: 68}
	maps := selfMaps(1)
	list := slices.Concat(smallerCouples(4), greatCouples(2)[:3], greatCouples(7)[3:6])
	for at, k := range list {
		m := maps[at%len(maps)]
		other := list[(at+1)%len(list)].Couple
		expectPure5(t, withSpare(k.Couple), withSpare(other), withSpare(m.X.Complex), withSpare(m.F))
	}
	for _, c := range []impl.Couple{zeroCouple(3, 4, 4), zeroCouple(2, 24, 24), randomCouple(g, 5, 6, 5), randomCouple(g, 7, 0, 3), randomCouple(g, 7, 3, 0)} {
		x, f := diagonalMap(c.Prime, 1, 2, 2)
		expectPure5(t, withSpare(c), withSpare(c), withSpare(x), withSpare(f))
	}
	for _, c := range noCouples() {
		if c.D*c.E < 100 && len(c.I) < 100 {
			bad := noComplexes()
			expectPure5(t, withSpare(c), withSpare(list[0].Couple), withSpare(bad[g.below(int64(len(bad)))]), withSpare(tables{{{1}}}))
		}
	}
}
