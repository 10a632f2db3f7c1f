package tests

import (
	"fmt"
	"reflect"
	"slices"
	"testing"

	"loop.example/g01273/impl"
)

// given8 has arguments for all functions of chapter 8: a vector v of the degree n of a complex x, a
// contraction c of x, and a perturbation maps.
type given8 struct {
	x    impl.Complex
	n    int64
	v    []int64
	c    impl.Contraction
	maps tables
}

// callsWith8 lists a call of each function of chapter 8. There is p for those that need a perturbation,
// and r for those that need rounds. IsContraction takes any contraction.
func callsWith8(a given8) []call {
	return []call{
		{"HolesOf", "xn", nil, func() []any { return all(impl.HolesOf(a.x, a.n)) }},
		{"FreePlaces", "xn", nil, func() []any { return all(impl.FreePlaces(a.x, a.n)) }},
		{"SplitVector", "xnv", nil, func() []any { return all(impl.SplitVector(a.x, a.n, a.v)) }},
		{"ContractionOf", "x", nil, func() []any { return all(impl.ContractionOf(a.x)) }},
		{"IsContraction", "x", nil, func() []any { return all(impl.IsContraction(a.x, a.c)) }},
		{"HomologyComplex", "x", nil, func() []any { return all(impl.HomologyComplex(a.x)) }},
		{"IsPerturbation", "xm", nil, func() []any { return all(impl.IsPerturbation(a.x, a.maps)) }},
		{"PerturbedComplex", "xmp", nil, func() []any { return all(impl.PerturbedComplex(a.x, a.maps)) }},
		{"RoundsOf", "xcmpr", nil, func() []any { return all(impl.RoundsOf(a.x, a.c, a.maps)) }},
		{"TransferredComplex", "xcmpr", nil, func() []any { return all(impl.TransferredComplex(a.x, a.c, a.maps)) }},
		{"ZeroMaps", "x", nil, func() []any { return all(impl.ZeroMaps(a.x)) }},
	}
}

// givens8 lists arguments without a flaw.
func givens8() []given8 {
	g := &numbers{state: 111}
	var list []given8
	add := func(k contractedTo) {
		n := g.below(int64(len(k.X.Dims)))
		list = append(list, given8{k.X, n, g.row(k.X.Prime, k.X.Dims[n]), k.C, k.E})
	}
	for _, k := range slices.Concat(contractions(1, 3, 3), perturbedByLevels(1)) {
		add(k)
	}
	for _, p := range usualPrimes {
		add(chainOfRounds(p, impl.MaxTop, 2, 8, 8))
		add(contractedOf(p, known{Ranks: make([]int64, 2), Holes: []int64{0}}))
		add(contractedOf(p, known{Ranks: make([]int64, 7), Holes: []int64{8, 8, 8, 8, 8, 8}}))
	}
	return list
}

// unlikeContractions lists what arises from a contraction of a complex modulo p by a list of a wrong length
// at any depth, or by a number out of range.
func unlikeContractions(p int64, c impl.Contraction) []impl.Contraction {
	var list []impl.Contraction
	bad := append([]int64{p, p + 1, 5 + p}, farNumbers...)
	for _, f := range changesOf(reflect.ValueOf(c.Down), bad) {
		list = append(list, impl.Contraction{Down: f.Interface().(tables), Up: c.Up, Back: c.Back})
	}
	for _, f := range changesOf(reflect.ValueOf(c.Up), bad) {
		list = append(list, impl.Contraction{Down: c.Down, Up: f.Interface().(tables), Back: c.Back})
	}
	for _, f := range changesOf(reflect.ValueOf(c.Back), bad) {
		list = append(list, impl.Contraction{Down: c.Down, Up: c.Up, Back: f.Interface().(tables)})
	}
	return list
}

// noContractions lists, for a contraction of x, what is none: what is unlike one, what has one number changed
// so that a condition fails, and no lists at all.
func noContractions(random *numbers, x impl.Complex, c impl.Contraction) []impl.Contraction {
	list := append(unlikeContractions(x.Prime, c), impl.Contraction{})
	for range 30 {
		other := withSpare(c) // a copy
		places := placesOf(other)
		if len(places) == 0 {
			break
		}
		place := places[random.below(int64(len(places)))]
		*place = (*place + 1 + random.below(x.Prime-1)) % x.Prime
		if len(failing(x, other)) > 0 {
			list = append(list, other)
		}
	}
	return list
}

// stateFlaws8 lists flaws of the perturbation: lists that are none, and such as have no rounds.
func stateFlaws8(random *numbers, a given8) []flaw[given8] {
	var list []flaw[given8]
	add := func(maps tables, touches string) {
		list = append(list, flaw[given8]{"m", maps, impl.ErrState, touches, func(a *given8) { a.maps = maps }})
	}
	for range 20 {
		if other, ok := changed(random, a.x.Prime, a.maps); ok && !plainIsComplex(plainPerturbed(a.x, other)) {
			add(other, "mp")
		}
	}
	zero := differenceOf(a.x, flatOf(a.x.Prime, a.x.Dims...))
	if _, ok := plainRounds(a.x, a.c, zero); !ok {
		add(zero, "mr")
	}
	return list
}

// flaws8 lists flaws of each kind, kind by kind.
func flaws8(random *numbers, a given8, wrong []impl.Complex) [][]flaw[given8] {
	var contractions []flaw[given8]
	for _, bad := range noContractions(random, a.x, a.c) {
		contractions = append(contractions, flaw[given8]{"c", bad, impl.ErrRange, "c", func(a *given8) { a.c = bad }})
	}
	return [][]flaw[given8]{
		complexFlaws("x", impl.ErrInvalid, "x", func(a *given8) *impl.Complex { return &a.x }, wrong),
		numberFlaws("n", 0, int64(len(a.x.Dims))-1, func(a *given8) *int64 { return &a.n }),
		vectorFlaws("v", a.x.Prime, a.v, func(a *given8) *[]int64 { return &a.v }),
		contractions,
		familyFlaws("m", a.x.Prime, a.maps, func(a *given8) *tables { return &a.maps }),
		stateFlaws8(random, a),
	}
}

func TestErrorsOfChapter8(t *testing.T) {
	random := &numbers{state: 112}
	wrong := noComplexes()
	states := map[string]int{}
	for at, a := range givens8() {
		kinds := flaws8(random, a, wrong)
		for _, one := range kinds[len(kinds)-1] {
			states[one.touches]++
		}
		expectSingleFlaws(t, random, a, callsWith8, kinds, 12)
		if at%2 == 0 {
			expectPairsOfFlaws(t, random, a, callsWith8, kinds, undoNone)
		}
	}
	if states["mp"] < 100 || states["mr"] < 50 {
		t.Errorf("%v flaws of states", states)
	}
}

// TestEachErrorOfChapter8 has all flaws of arguments of few vectors, one by one.
func TestEachErrorOfChapter8(t *testing.T) {
	random := &numbers{state: 113}
	for _, p := range []int64{2, 7} {
		for top := range int64(4) {
			k := contractedOf(p, randomParts(random, top, 2, 2)).mix(random, 10)
			a := given8{k.X, top, random.row(p, k.X.Dims[top]), k.C, k.E}
			for _, list := range flaws8(random, a, noComplexes()) {
				for _, one := range list {
					expectFlaws(t, a, callsWith8, one)
				}
			}
		}
	}
}

// TestComplexesThatAreNoneForTransfers has no complex, and nothing else right either.
func TestComplexesThatAreNoneForTransfers(t *testing.T) {
	for _, bad := range noComplexes() {
		for _, n := range append([]int64{0, 1}, farNumbers...) {
			f := tables{{{n}}}
			for _, a := range []given8{{x: bad, n: n, v: []int64{n}, c: impl.Contraction{Down: f, Up: f, Back: f}, maps: f}, {x: bad, n: n}, {x: bad, n: n, maps: bad.Maps}} {
				for _, call := range callsWith8(a) {
					expectCode(t, fmt.Sprintf("%s with %v and %d", call.name, bad, n), impl.ErrInvalid, call.run())
				}
			}
		}
	}
}

// TestWhatIsNoContraction has families of tables that are none: IsContraction says so, without an error.
func TestWhatIsNoContraction(t *testing.T) {
	random := &numbers{state: 114}
	for _, a := range givens8() {
		expectContraction(t, true, a.x, a.c)
		list := noContractions(random, a.x, a.c)
		for range min(60, len(list)) {
			expectContraction(t, false, a.x, list[random.below(int64(len(list)))])
		}
		expectContraction(t, false, a.x, impl.Contraction{Down: a.c.Down, Up: a.c.Up})
		expectContraction(t, false, a.x, impl.Contraction{Down: a.c.Down, Back: a.c.Back})
		expectContraction(t, false, a.x, impl.Contraction{Up: a.c.Up, Back: a.c.Back})
	}
	for _, text := range []string{"2:0:", "3:1:", "2:1,1:1", "3:2,1:12", "5:1,2,1:1,0;00", "7:0,1,1:-;3"} {
		x := parsed(t, text)
		c := splitOf(t, x)
		for _, bad := range noContractions(random, x, c) {
			expectContraction(t, false, x, bad)
		}
		// families that are right in another place
		if text != "2:0:" && text != "3:1:" {
			for _, bad := range []impl.Contraction{{Down: c.Up, Up: c.Down, Back: c.Back}, {Down: c.Back, Up: c.Up, Back: c.Down}, {Down: c.Down, Up: c.Back, Back: c.Up}} {
				expectContraction(t, false, x, bad)
			}
		}
	}
}

// TestContractionsOfOtherComplexes has contractions and perturbations that are right for another complex.
func TestContractionsOfOtherComplexes(t *testing.T) {
	x, longer, wider, other := parsed(t, "3:2,1:12"), parsed(t, "3:2,1,0:12;-"), parsed(t, "3:3,1:120"), parsed(t, "3:2,1:21")
	moved := parsed(t, "3:2,1:10")
	c := splitOf(t, x)
	for _, y := range []impl.Complex{longer, wider, moved, parsed(t, "3:2,1:00"), parsed(t, "3:2:"), parsed(t, "3:1,1:1")} {
		none := splitOf(t, y)
		expectContraction(t, false, x, none)
		expectContraction(t, false, y, c)
		for _, maps := range []tables{zeroMapsOf(x), {{{2, 1}}}, {{{1, 0}}}} { // also without rounds
			expectCode(t, "RoundsOf with a contraction of another complex", impl.ErrRange, all(impl.RoundsOf(x, none, maps)))
			expectCode(t, "TransferredComplex with a contraction of another complex", impl.ErrRange, all(impl.TransferredComplex(x, none, maps)))
		}
	}
	// with the same spaces and another differential, only Back is different
	expectContraction(t, false, other, c)
	expectContraction(t, true, other, impl.Contraction{Down: c.Down, Up: c.Up, Back: tables{{{2}, {0}}, {{}}}})
	for _, y := range []impl.Complex{longer, wider, parsed(t, "3:2:"), parsed(t, "3:1,1:1"), parsed(t, "3:1,2:1,0")} {
		maps := zeroMapsOf(y)
		expectCode(t, "IsPerturbation of another complex", impl.ErrRange, all(impl.IsPerturbation(x, maps)))
		expectCode(t, "PerturbedComplex of another complex", impl.ErrRange, all(impl.PerturbedComplex(x, maps)))
		expectCode(t, "RoundsOf of another complex", impl.ErrRange, all(impl.RoundsOf(x, c, maps)))
		expectCode(t, "TransferredComplex of another complex", impl.ErrRange, all(impl.TransferredComplex(x, c, maps)))
	}
}

// TestDegreesAndVectorsOfSplits has degrees and vectors out of range, and vectors of another degree.
func TestDegreesAndVectorsOfSplits(t *testing.T) {
	for _, x := range []impl.Complex{flatOf(2, 0), flatOf(5, 8), parsed(t, "3:2,1:12"), flatOf(7, 0, 3, 0, 8, 1, 0)} {
		top := int64(len(x.Dims)) - 1
		for _, n := range append([]int64{-1, top + 1, top + 2, top - 1<<32, top + 1<<32}, farNumbers...) {
			for _, v := range [][]int64{nil, {0}, make([]int64, x.Dims[0]), make([]int64, x.Dims[top])} {
				for _, call := range callsWith8(given8{x: x, n: n, v: v})[:3] {
					expectCode(t, fmt.Sprintf("%s at %d of %v", call.name, n, x), impl.ErrRange, call.run())
				}
			}
		}
		for n, dim := range x.Dims {
			for size := range int64(10) {
				want := int64(impl.ErrRange)
				if size == dim {
					want = impl.ErrNone
				}
				expectCode(t, fmt.Sprintf("SplitVector of %d numbers at %d of %v", size, n, x), want, all(impl.SplitVector(x, int64(n), make([]int64, size))))
			}
			for place := range dim {
				for _, number := range append([]int64{x.Prime, -1}, farNumbers...) {
					v := make([]int64, dim)
					v[place] = number
					expectCode(t, fmt.Sprintf("SplitVector of %v at %d of %v", v, n, x), impl.ErrRange, all(impl.SplitVector(x, int64(n), v)))
				}
			}
		}
	}
}

// TestStatesOfTransfers has lists that are no perturbations, perturbations without rounds, and lists that
// are not like Maps, each with a contraction and with none.
func TestStatesOfTransfers(t *testing.T) {
	x := parsed(t, "3:1,2,1:0,1;10")
	good := splitOf(t, x)
	bad := splitOf(t, x)
	bad.Back[0][0][1] = 2
	for _, c := range []struct {
		maps                         tables
		perturbed, rounds, contracts int64
	}{
		{tables{{{0}, {0}}, {{0, 0}}}, impl.ErrNone, impl.ErrNone, impl.ErrRange},
		{tables{{{0}, {0}}, {{0, 1}}}, impl.ErrState, impl.ErrState, impl.ErrRange},
		{tables{{{0}, {2}}, {{0, 0}}}, impl.ErrNone, impl.ErrState, impl.ErrRange},
		{tables{{{0}, {2}}, {{2, 1}}}, impl.ErrNone, impl.ErrState, impl.ErrRange},
		{tables{{{0}, {3}}, {{0, 1}}}, impl.ErrRange, impl.ErrRange, impl.ErrRange},
		{tables{{{0}, {0}}, {{0}}}, impl.ErrRange, impl.ErrRange, impl.ErrRange},
		{tables{{{0}, {0}}}, impl.ErrRange, impl.ErrRange, impl.ErrRange},
		{nil, impl.ErrRange, impl.ErrRange, impl.ErrRange},
	} {
		expectCode(t, fmt.Sprint("PerturbedComplex by ", c.maps), c.perturbed, all(impl.PerturbedComplex(x, c.maps)))
		expectCode(t, fmt.Sprint("RoundsOf by ", c.maps), c.rounds, all(impl.RoundsOf(x, good, c.maps)))
		expectCode(t, fmt.Sprint("TransferredComplex by ", c.maps), c.rounds, all(impl.TransferredComplex(x, good, c.maps)))
		expectCode(t, fmt.Sprint("RoundsOf without a contraction by ", c.maps), c.contracts, all(impl.RoundsOf(x, bad, c.maps)))
		expectCode(t, fmt.Sprint("TransferredComplex without a contraction by ", c.maps), c.contracts, all(impl.TransferredComplex(x, bad, c.maps)))
		want := c.perturbed
		if want == impl.ErrState {
			want = impl.ErrNone
		}
		expectCode(t, fmt.Sprint("IsPerturbation of ", c.maps), want, all(impl.IsPerturbation(x, c.maps)))
	}
}

// TestFunctionsOfChapter8ArePure has arguments with and without flaws, and such as share their memory.
func TestFunctionsOfChapter8ArePure(t *testing.T) {
	random := &numbers{state: 115}
	check := func(a given8) {
		args := all(a.x, a.v, a.c, a.maps)
		for _, call := range callsWith8(a) {
			checkPure(t, call.name, args, call.run)
		}
	}
	for at, a := range givens8() {
		for n, dim := range a.x.Dims {
			if int64(n) == a.n || at%8 == 0 {
				check(spare8(given8{a.x, int64(n), random.row(a.x.Prime, dim), a.c, a.maps}))
			}
		}
		// the differentials as the perturbation, and the same rows at all places
		check(given8{x: a.x, n: a.n, v: a.v, c: a.c, maps: a.x.Maps})
		if at%4 != 0 {
			continue
		}
		for _, list := range flaws8(random, a, noComplexes()) {
			for _, one := range someOf(random, list, 2) {
				b := a
				one.apply(&b)
				check(spare8(b))
			}
		}
	}
	row := withSpare([]int64{1})
	same := tables{{row}, {row}}
	x := impl.Complex{Prime: 2, Dims: []int64{1, 1}, Maps: tables{{row}}}
	check(given8{x: x, v: row, c: impl.Contraction{Down: same, Up: same, Back: same}, maps: same[:1]})
	flat := flatOf(2, 1, 1)
	one := impl.Contraction{Down: same, Up: same, Back: tables{{{0}}, {{}}}}
	expectContraction(t, true, flat, one)
	check(given8{x: flat, v: row, c: one, maps: same[:1]})
}

// spare8 returns a copy of arguments in which each slice has spare capacity.
func spare8(a given8) given8 {
	a.x, a.v, a.c, a.maps = withSpare(a.x), withSpare(a.v), withSpare(a.c), withSpare(a.maps)
	return a
}
