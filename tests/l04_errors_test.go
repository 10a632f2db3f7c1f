package tests

import (
	"fmt"
	"reflect"
	"slices"
	"strings"
	"testing"

	"loop.example/g01273/impl"
)

// given4 has arguments for all functions of chapter 4: families f and g from x to y, next from y to
// z, and h of the shift 1 from x to y, and a vector v of the degree n of x.
type given4 struct {
	x, y, z       impl.Complex
	f, g, next, h tables
	n             int64
	v             []int64
	k, s          int64
}

// call4 is a call of a function of chapter 4. The names of the arguments that it takes are told by
// one letter each, next by t; there is c for those that need chain maps, and l for limits.
type call4 struct {
	name, takes string
	run         func() []any
}

// callsWith4 lists a call of each function of chapter 4.
func callsWith4(a given4) []call4 {
	return []call4{
		{"IsChainMap", "xyf", func() []any { return all(impl.IsChainMap(a.x, a.y, a.f)) }},
		{"IdentityMap", "x", func() []any { return all(impl.IdentityMap(a.x)) }},
		{"ApplyFamily", "xyfnv", func() []any { return all(impl.ApplyFamily(a.x, a.y, a.f, a.n, a.v)) }},
		{"ComposeFamilies", "xyzft", func() []any { return all(impl.ComposeFamilies(a.x, a.y, a.z, a.f, a.next)) }},
		{"AddFamilies", "xyfgk", func() []any { return all(impl.AddFamilies(a.x, a.y, a.f, a.g, a.k)) }},
		{"ConeOf", "xyfcl", func() []any { return all(impl.ConeOf(a.x, a.y, a.f)) }},
		{"InducedRank", "xyfcn", func() []any { return all(impl.InducedRank(a.x, a.y, a.f, a.n)) }},
		{"IsQuasi", "xyfc", func() []any { return all(impl.IsQuasi(a.x, a.y, a.f)) }},
		{"LongSequence", "xyfc", func() []any { return all(impl.LongSequence(a.x, a.y, a.f)) }},
		{"IsHomotopy", "xyfgch", func() []any { return all(impl.IsHomotopy(a.x, a.y, a.f, a.g, a.h)) }},
		{"AreHomotopic", "xyfgc", func() []any { return all(impl.AreHomotopic(a.x, a.y, a.f, a.g)) }},
		{"ZeroFamily", "xys", func() []any { return all(impl.ZeroFamily(a.x, a.y, a.s)) }},
	}
}

// flaw is something wrong with one argument, told by its letter. It makes calls fail that take all
// arguments of a list of letters.
type flaw struct {
	argument string
	wrong    any
	code     int64
	touches  string
	apply    func(*given4)
}

// givenOf returns arguments without a flaw, made from a known map.
func givenOf(g *numbers, m knownMap) given4 {
	next := movedFrom(g, m.Y)
	x, y := m.X.Complex, m.Y.Complex
	h := randomFamily(g, x, y, 1)
	n := g.below(int64(len(x.Dims)))
	return given4{
		x: x, y: y, z: next.Y.Complex, f: m.F, g: plainSum(x, y, m.F, plainNull(x, y, h), x.Prime-1), next: next.F, h: h,
		n: n, v: g.row(x.Prime, x.Dims[n]), k: g.below(x.Prime), s: g.below(2),
	}
}

// flatOf returns a complex with the differentials 0.
func flatOf(p int64, dims ...int64) impl.Complex {
	x := complexOf(p, dims)
	for n := 1; n < len(dims); n++ {
		x.Maps = append(x.Maps, zeros(dims[n], dims[n-1]))
	}
	return x
}

// complexFlaws lists flaws of the complex at a place: what is no complex, and what does not fit to
// the other ones.
func complexFlaws(letter string, x impl.Complex, place func(*given4) *impl.Complex, wrong []impl.Complex) []flaw {
	var list []flaw
	for _, bad := range wrong {
		list = append(list, flaw{letter, bad, impl.ErrInvalid, letter, func(a *given4) { *place(a) = bad }})
	}
	var others []impl.Complex
	for _, p := range []int64{2, 3, 5, 7} {
		if p != x.Prime {
			others = append(others, flatOf(p, x.Dims...))
		}
	}
	if len(x.Dims) <= impl.MaxTop {
		others = append(others, flatOf(x.Prime, append(slices.Clone(x.Dims), 0)...))
	}
	if len(x.Dims) > 1 {
		others = append(others, flatOf(x.Prime, x.Dims[1:]...), flatOf(x.Prime, x.Dims[:len(x.Dims)-1]...))
	}
	touches := letter + "xy"
	for _, other := range others {
		list = append(list, flaw{letter, other, impl.ErrRange, touches, func(a *given4) { *place(a) = other }})
	}
	return list
}

// familyFlaws lists flaws of a family: lists of wrong lengths, and wrong numbers.
func familyFlaws(letter string, p int64, f tables, place func(*given4) *tables) []flaw {
	var list []flaw
	for _, bad := range changesOf(reflect.ValueOf(f), append([]int64{p, p + 1, 5 + p}, farNumbers...)) {
		family := bad.Interface().(tables)
		list = append(list, flaw{letter, family, impl.ErrRange, letter, func(a *given4) { *place(a) = family }})
	}
	return list
}

// numberFlaws lists flaws of a number that is outside of low..high.
func numberFlaws(letter string, low int64, high int64, place func(*given4) *int64) []flaw {
	var list []flaw
	for _, bad := range append([]int64{low - 1, high + 1, high + 2, low - 100, high + 1<<32}, farNumbers...) {
		if bad < low || bad > high {
			list = append(list, flaw{letter, bad, impl.ErrRange, letter, func(a *given4) { *place(a) = bad }})
		}
	}
	return list
}

// vectorFlaws lists flaws of the vector.
func vectorFlaws(a given4) []flaw {
	var list []flaw
	for _, bad := range changesOf(reflect.ValueOf(a.v), append([]int64{a.x.Prime, a.x.Prime + 1}, farNumbers...)) {
		v := bad.Interface().([]int64)
		list = append(list, flaw{"v", v, impl.ErrRange, "v", func(a *given4) { a.v = v }})
	}
	return list
}

// stateFlaws lists flaws of families that have to be chain maps, if there is another family at all.
func stateFlaws(random *numbers, a given4) []flaw {
	var list []flaw
	for range 20 {
		f, ok := changed(random, a.x.Prime, a.f)
		if ok && !plainIsChainMap(a.x, a.y, f) {
			list = append(list, flaw{"f", f, impl.ErrState, "fc", func(a *given4) { a.f = f }},
				flaw{"g", f, impl.ErrState, "gc", func(a *given4) { a.g = f }})
		}
	}
	return list
}

// flawsOf lists flaws of each kind for arguments, kind by kind.
func flawsOf(random *numbers, a given4, wrong []impl.Complex) [][]flaw {
	return [][]flaw{
		complexFlaws("x", a.x, func(a *given4) *impl.Complex { return &a.x }, wrong),
		complexFlaws("y", a.y, func(a *given4) *impl.Complex { return &a.y }, wrong),
		complexFlaws("z", a.z, func(a *given4) *impl.Complex { return &a.z }, wrong),
		familyFlaws("f", a.x.Prime, a.f, func(a *given4) *tables { return &a.f }),
		familyFlaws("g", a.x.Prime, a.g, func(a *given4) *tables { return &a.g }),
		familyFlaws("t", a.x.Prime, a.next, func(a *given4) *tables { return &a.next }),
		familyFlaws("h", a.x.Prime, a.h, func(a *given4) *tables { return &a.h }),
		numberFlaws("n", 0, int64(len(a.x.Dims))-1, func(a *given4) *int64 { return &a.n }),
		numberFlaws("k", 0, a.x.Prime-1, func(a *given4) *int64 { return &a.k }),
		numberFlaws("s", 0, 1, func(a *given4) *int64 { return &a.s }),
		vectorFlaws(a),
		stateFlaws(random, a),
	}
}

// orderOfCodes lists the codes of chapter 4 in the order in which they are checked.
var orderOfCodes = []int64{impl.ErrInvalid, impl.ErrRange, impl.ErrState, impl.ErrLimit, impl.ErrNone}

// takesAll reports whether a call takes all arguments of a list.
func takesAll(takes string, letters string) bool {
	for _, letter := range letters {
		if !strings.ContainsRune(takes, letter) {
			return false
		}
	}
	return true
}

// expectFlaws checks the codes of all calls with flaws of different arguments: each call returns that
// of its flaws which is checked first.
func expectFlaws(t *testing.T, a given4, flaws ...flaw) {
	t.Helper()
	limit := int64(impl.ErrNone)
	if !hasCone(a.x, a.y) {
		limit = impl.ErrLimit
	}
	name := ""
	for _, one := range flaws {
		one.apply(&a)
		name += fmt.Sprintf("%s as %v; ", one.argument, one.wrong)
	}
	for _, call := range callsWith4(a) {
		want := int64(impl.ErrNone)
		if takesAll(call.takes, "l") {
			want = limit
		}
		for _, one := range flaws {
			if takesAll(call.takes, one.touches) && slices.Index(orderOfCodes, one.code) < slices.Index(orderOfCodes, want) {
				want = one.code
			}
		}
		expectCode(t, call.name+" with "+name, want, call.run())
	}
}

// someOf returns at most the given number of flaws of a list, each code among them.
func someOf(random *numbers, list []flaw, count int) []flaw {
	var some []flaw
	for _, code := range orderOfCodes {
		kind := slices.DeleteFunc(slices.Clone(list), func(one flaw) bool { return one.code != code })
		for range min(count, len(kind)) {
			some = append(some, kind[random.below(int64(len(kind)))])
		}
	}
	return some
}

// undo reports whether one of two flaws may take back the other one: both of one argument, or of two
// complexes that do not fit to others, but perhaps to each other.
func undo(one flaw, other flaw) bool {
	bothComplexes := takesAll("xyz", one.argument+other.argument)
	return one.argument == other.argument || bothComplexes && one.code == impl.ErrRange && other.code == impl.ErrRange
}

func TestErrorsOfChapter4(t *testing.T) {
	random := &numbers{state: 16}
	wrong := noComplexes()
	for at, m := range knownMaps(1) {
		a := givenOf(random, m)
		expectFlaws(t, a)
		kinds := flawsOf(random, a, wrong)
		for _, list := range kinds {
			for _, one := range someOf(random, list, 12) {
				expectFlaws(t, a, one)
			}
		}
		if at%2 == 1 { // one small and one great map of each top are enough for pairs of flaws
			continue
		}
		for i, list := range kinds {
			for _, others := range kinds[:i] {
				for _, one := range someOf(random, list, 2) {
					for _, other := range someOf(random, others, 2) {
						if !undo(one, other) {
							expectFlaws(t, a, one, other)
						}
					}
				}
			}
		}
	}
}

// TestEachErrorOfChapter4 has all flaws of arguments of few vectors, one by one.
func TestEachErrorOfChapter4(t *testing.T) {
	random := &numbers{state: 17}
	for _, p := range []int64{2, 7} {
		for top := range int64(3) {
			a := givenOf(random, anyMap(random, p, top, 2, 2))
			for _, list := range flawsOf(random, a, noComplexes()) {
				for _, one := range list {
					expectFlaws(t, a, one)
				}
			}
		}
	}
}

// TestComplexesThatAreNoneAtAll has no complex at any place, and nothing else right either.
func TestComplexesThatAreNoneAtAll(t *testing.T) {
	for _, bad := range noComplexes() {
		for _, n := range farNumbers {
			for _, call := range callsWith4(given4{x: bad, y: bad, z: bad, n: n, k: n, s: n, v: []int64{n}, f: tables{{{n}}}}) {
				expectCode(t, fmt.Sprintf("%s with %v and %d", call.name, bad, n), impl.ErrInvalid, call.run())
			}
		}
	}
}

// TestFamiliesThatFitOtherComplexes has families that are right in another place.
func TestFamiliesThatFitOtherComplexes(t *testing.T) {
	x, y := flatOf(3, 2, 1, 0), flatOf(3, 1, 3, 2)
	there, back, up, upBack := zeroOf(t, x, y, 0), zeroOf(t, y, x, 0), zeroOf(t, x, y, 1), zeroOf(t, y, x, 1)
	for _, f := range []tables{back, up, upBack, {}, nil, there[:2], append(slices.Clone(there), nil)} {
		for _, call := range callsWith4(given4{x: x, y: y, z: x, f: f, g: there, next: back, h: up, v: []int64{0, 0}}) {
			if takesAll(call.takes, "f") {
				expectCode(t, fmt.Sprintf("%s with f %v", call.name, f), impl.ErrRange, call.run())
			}
		}
		for _, call := range callsWith4(given4{x: x, y: y, z: x, f: there, g: f, next: back, h: up, v: []int64{0, 0}}) {
			if takesAll(call.takes, "g") {
				expectCode(t, fmt.Sprintf("%s with g %v", call.name, f), impl.ErrRange, call.run())
			}
		}
	}
	for _, next := range []tables{there, up, upBack} {
		expectCode(t, "ComposeFamilies", impl.ErrRange, all(impl.ComposeFamilies(x, y, x, there, next)))
	}
	for _, h := range []tables{there, back, upBack, zeroOf(t, x, x, 1), zeroOf(t, y, y, 1), nil} {
		expectCode(t, "IsHomotopy", impl.ErrRange, all(impl.IsHomotopy(x, y, there, there, h)))
	}
}

// TestRowsWithoutNumbersOfFamilies has rows without numbers where the target has no vectors.
func TestRowsWithoutNumbersOfFamilies(t *testing.T) {
	x, y := flatOf(3, 2, 2), flatOf(3, 1, 0)
	good := tables{{{1}, {2}}, {{}, nil}}
	expectChainMap(t, "with rows without numbers", true, x, y, good)
	expectResults(t, "ApplyFamily without numbers", all([]int64{}, 0), all(impl.ApplyFamily(x, y, good, 1, []int64{1, 2})))
	for _, bad := range []tables{{{{1}, {2}}, {{}}}, {{{1}, {2}}, {}}, {{{1}, {2}}, nil}, {{{1}, {2}}, {{}, {0}}}, {{{1}, {2}}, {{}, {}, {}}}, {{{1}, {}}, {{}, {}}}} {
		expectCode(t, fmt.Sprint("IsChainMap of ", bad), impl.ErrRange, all(impl.IsChainMap(x, y, bad)))
	}
	zero := zeroOf(t, x, y, 0)
	for _, h := range []tables{{{{}, {}}, {{}, {}}}, {{nil, nil}, {nil, nil}}} {
		expectHomotopy(t, true, x, y, zero, zero, h)
	}
	for _, h := range []tables{{{}, {{}, {}}}, {{{}, {}}, {}}, {{{}, {}}, {{0}, {0}}}, {{{0}, {}}, {{}, {}}}, {{{}, {}}}} {
		expectCode(t, fmt.Sprint("IsHomotopy of ", h), impl.ErrRange, all(impl.IsHomotopy(x, y, zero, zero, h)))
	}
}

func TestFunctionsOfChapter4ArePure(t *testing.T) {
	random := &numbers{state: 18}
	check := func(a given4) {
		args := all(a.x, a.y, a.z, a.f, a.g, a.next, a.h, a.v)
		for _, call := range callsWith4(a) {
			checkPure(t, call.name, args, call.run)
		}
	}
	for at, m := range knownMaps(1) {
		a := givenOf(random, m)
		check(spare4(a))
		if at%4 > 1 { // the smaller maps are enough
			continue
		}
		for _, list := range flawsOf(random, a, noComplexes()) {
			for _, one := range someOf(random, list, 1) {
				b := a
				one.apply(&b)
				check(spare4(b))
			}
		}
		// the same complexes and families at all places
		identity := identityOf(t, a.x)
		check(spare4(given4{x: a.x, y: a.x, z: a.x, f: identity, g: identity, next: identity, h: zeroOf(t, a.x, a.x, 1), n: a.n, v: a.v}))
		same := withSpare(identity)
		check(given4{x: a.x, y: a.x, z: a.x, f: same, g: same, next: same, h: same, n: a.n, v: a.v, k: 1})
	}
}

// spare4 returns a copy of arguments in which each slice has spare capacity.
func spare4(a given4) given4 {
	a.x, a.y, a.z = withSpare(a.x), withSpare(a.y), withSpare(a.z)
	a.f, a.g, a.next, a.h, a.v = withSpare(a.f), withSpare(a.g), withSpare(a.next), withSpare(a.h), withSpare(a.v)
	return a
}
