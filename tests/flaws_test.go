package tests

import (
	"fmt"
	"math"
	"reflect"
	"slices"
	"strings"
	"testing"

	"loop.example/g01273/impl"
)

// The functions of this file call the functions of a chapter with arguments that have flaws, and check
// that each call returns the code of that of its flaws which is checked first. The arguments for all
// functions of a chapter are one struct, a type of each chapter's tests.

// call is a call of a function. The names of the arguments that it takes are told by one letter each;
// there is c for those that need chain maps. It may tell whether its result exceeds limits.
type call struct {
	name, takes string
	exceeds     func() bool
	run         func() []any
}

// code returns the code of a call with arguments without flaws.
func (c call) code() int64 {
	if c.exceeds != nil && c.exceeds() {
		return impl.ErrLimit
	}
	return impl.ErrNone
}

// flaw is something wrong with one argument, told by its letter. It makes calls fail that take all
// arguments of a list of letters.
type flaw[G any] struct {
	argument string
	wrong    any
	code     int64
	touches  string
	apply    func(*G)
}

// orderOfCodes lists the codes in the order in which they are checked.
var orderOfCodes = []int64{impl.ErrInvalid, impl.ErrRange, impl.ErrState, impl.ErrLimit, impl.ErrNone}

// usualPrimes are the primes of the program.
var usualPrimes = []int64{2, 3, 5, 7}

// takesAll reports whether a call takes all arguments of a list.
func takesAll(takes string, letters string) bool {
	for _, letter := range letters {
		if !strings.ContainsRune(takes, letter) {
			return false
		}
	}
	return true
}

// flatOf returns a complex with the differentials 0.
func flatOf(p int64, dims ...int64) impl.Complex {
	x := complexOf(p, dims)
	for n := 1; n < len(dims); n++ {
		x.Maps = append(x.Maps, zeros(dims[n], dims[n-1]))
	}
	return x
}

// otherPrimes lists complexes of the dimensions of x modulo other primes.
func otherPrimes(x impl.Complex) []impl.Complex {
	var others []impl.Complex
	for _, p := range usualPrimes {
		if p != x.Prime {
			others = append(others, flatOf(p, x.Dims...))
		}
	}
	return others
}

// otherTops lists complexes with one degree more or less than x, and the same dimensions otherwise.
func otherTops(x impl.Complex) []impl.Complex {
	var others []impl.Complex
	if len(x.Dims) <= impl.MaxTop {
		others = append(others, flatOf(x.Prime, append(slices.Clone(x.Dims), 0)...))
	}
	if len(x.Dims) > 1 {
		others = append(others, flatOf(x.Prime, x.Dims[1:]...), flatOf(x.Prime, x.Dims[:len(x.Dims)-1]...))
	}
	return others
}

// complexFlaws lists flaws of the complex at a place, which have a code, and make calls fail that take
// all of some letters.
func complexFlaws[G any](letter string, code int64, touches string, place func(*G) *impl.Complex, wrong []impl.Complex) []flaw[G] {
	var list []flaw[G]
	for _, bad := range wrong {
		list = append(list, flaw[G]{letter, bad, code, touches, func(a *G) { *place(a) = bad }})
	}
	return list
}

// familyFlaws lists flaws of a family: lists of wrong lengths, and wrong numbers.
func familyFlaws[G any](letter string, p int64, f tables, place func(*G) *tables) []flaw[G] {
	var list []flaw[G]
	for _, bad := range changesOf(reflect.ValueOf(f), append([]int64{p, p + 1, 5 + p}, farNumbers...)) {
		family := bad.Interface().(tables)
		list = append(list, flaw[G]{letter, family, impl.ErrRange, letter, func(a *G) { *place(a) = family }})
	}
	return list
}

// numberFlaws lists flaws of a number that is outside of low..high.
func numberFlaws[G any](letter string, low int64, high int64, place func(*G) *int64) []flaw[G] {
	var list []flaw[G]
	for _, bad := range append([]int64{low - 1, high + 1, high + 2, low - 100, high + 1<<32}, farNumbers...) {
		if bad < low || bad > high {
			list = append(list, flaw[G]{letter, bad, impl.ErrRange, letter, func(a *G) { *place(a) = bad }})
		}
	}
	return list
}

// primeFlaws lists flaws of a number that has to be a prime.
func primeFlaws[G any](letter string, place func(*G) *int64) []flaw[G] {
	var list []flaw[G]
	for _, bad := range append([]int64{0, 1, 4, 6, 8, 9, 10, 11, 13, 25, 49, -3, -5, -7, 1<<32 + 2, 1<<32 + 3, math.MinInt64 + 2}, farNumbers...) {
		list = append(list, flaw[G]{letter, bad, impl.ErrRange, letter, func(a *G) { *place(a) = bad }})
	}
	return list
}

// vectorFlaws lists flaws of a vector of numbers modulo p.
func vectorFlaws[G any](letter string, p int64, v []int64, place func(*G) *[]int64) []flaw[G] {
	var list []flaw[G]
	for _, bad := range changesOf(reflect.ValueOf(v), append([]int64{p, p + 1}, farNumbers...)) {
		row := bad.Interface().([]int64)
		list = append(list, flaw[G]{letter, row, impl.ErrRange, letter, func(a *G) { *place(a) = row }})
	}
	return list
}

// stateFlaws lists flaws of a family from x to y that has to be a chain map, if there is another family
// at all.
func stateFlaws[G any](random *numbers, letter string, x impl.Complex, y impl.Complex, f tables, place func(*G) *tables) []flaw[G] {
	var list []flaw[G]
	for range 20 {
		other, ok := changed(random, x.Prime, f)
		if ok && !plainIsChainMap(x, y, other) {
			list = append(list, flaw[G]{letter, other, impl.ErrState, letter + "c", func(a *G) { *place(a) = other }})
		}
	}
	return list
}

// expectFlaws checks the codes of all calls with flaws of different arguments.
func expectFlaws[G any](t *testing.T, a G, calls func(G) []call, flaws ...flaw[G]) {
	t.Helper()
	plain, name := calls(a), ""
	for _, one := range flaws {
		one.apply(&a)
		name += fmt.Sprintf("%s as %v; ", one.argument, one.wrong)
	}
	for at, call := range calls(a) {
		want := plain[at].code()
		for _, one := range flaws {
			if takesAll(call.takes, one.touches) && slices.Index(orderOfCodes, one.code) < slices.Index(orderOfCodes, want) {
				want = one.code
			}
		}
		expectCode(t, call.name+" with "+name, want, call.run())
	}
}

// someOf returns at most the given number of flaws of a list, each code among them.
func someOf[G any](random *numbers, list []flaw[G], count int) []flaw[G] {
	var some []flaw[G]
	for _, code := range orderOfCodes {
		kind := slices.DeleteFunc(slices.Clone(list), func(one flaw[G]) bool { return one.code != code })
		for range min(count, len(kind)) {
			some = append(some, kind[random.below(int64(len(kind)))])
		}
	}
	return some
}

// expectSingleFlaws checks some flaws of each kind, one by one.
func expectSingleFlaws[G any](t *testing.T, random *numbers, a G, calls func(G) []call, kinds [][]flaw[G], count int) {
	t.Helper()
	expectFlaws(t, a, calls)
	for _, list := range kinds {
		for _, one := range someOf(random, list, count) {
			expectFlaws(t, a, calls, one)
		}
	}
}

// expectPairsOfFlaws checks some flaws of each two kinds together, unless they may take back each other.
func expectPairsOfFlaws[G any](t *testing.T, random *numbers, a G, calls func(G) []call, kinds [][]flaw[G], undo func(flaw[G], flaw[G]) bool) {
	t.Helper()
	for i, list := range kinds {
		for _, others := range kinds[:i] {
			for _, one := range someOf(random, list, 2) {
				for _, other := range someOf(random, others, 2) {
					if one.argument != other.argument && !undo(one, other) {
						expectFlaws(t, a, calls, one, other)
					}
				}
			}
		}
	}
}

// undoNone tells that no two flaws take back each other.
func undoNone[G any](flaw[G], flaw[G]) bool { return false }
