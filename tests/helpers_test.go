package tests

import (
	"fmt"
	"math"
	"reflect"
	"strings"
	"testing"

	"loop.example/g01273/impl"
)

// farNumbers are far outside of every range of the program.
var farNumbers = []int64{-1, -2, 41, 1 << 31, -(1 << 31), math.MaxInt64, math.MinInt64}

// all returns the results of a call as a list.
func all(results ...any) []any { return results }

// isZeroValue reports whether a value is a zero value, with empty slices as nil ones.
func isZeroValue(v reflect.Value) bool {
	switch v.Kind() {
	case reflect.Slice:
		return v.Len() == 0
	case reflect.Struct:
		for i := range v.NumField() {
			if !isZeroValue(v.Field(i)) {
				return false
			}
		}
		return true
	}
	return v.IsZero()
}

// expectCode checks the code, which is the last result, and that beside an error all other results
// are zero values.
func expectCode(t *testing.T, name string, want int64, results []any) {
	t.Helper()
	last := len(results) - 1
	if results[last] != want {
		t.Errorf("%s: code %v, want %d", name, results[last], want)
	}
	if results[last] == int64(impl.ErrNone) {
		return
	}
	for _, result := range results[:last] {
		if !isZeroValue(reflect.ValueOf(result)) {
			t.Errorf("%s: %v beside an error", name, result)
		}
	}
}

// expectResults checks all results, with empty slices as nil ones.
func expectResults(t *testing.T, name string, want []any, got []any) {
	t.Helper()
	if fmt.Sprint(got) != fmt.Sprint(want) {
		t.Errorf("%s = %v, want %v", name, got, want)
	}
}

// withSpare returns a copy in which each slice has spare capacity, filled with marks.
func withSpare[T any](value T) T {
	return spareCopy(reflect.ValueOf(value)).Interface().(T)
}

func spareCopy(v reflect.Value) reflect.Value {
	switch v.Kind() {
	case reflect.Slice:
		n := v.Len()
		full := reflect.MakeSlice(v.Type(), n+2, n+2)
		for i := range n {
			full.Index(i).Set(spareCopy(v.Index(i)))
		}
		for i := n; i < n+2; i++ {
			full.Index(i).Set(mark(v.Type().Elem()))
		}
		return full.Slice3(0, n, n+2)
	case reflect.Struct:
		out := reflect.New(v.Type()).Elem()
		for i := range v.NumField() {
			out.Field(i).Set(spareCopy(v.Field(i)))
		}
		return out
	}
	return v
}

// mark returns a value that no function of the program would write.
func mark(kind reflect.Type) reflect.Value {
	out := reflect.New(kind).Elem()
	switch kind.Kind() {
	case reflect.Int64:
		out.SetInt(-77)
	case reflect.Slice:
		out.Set(reflect.MakeSlice(kind, 1, 1))
		out.Index(0).Set(mark(kind.Elem()))
	case reflect.Struct:
		for i := range out.NumField() {
			out.Field(i).Set(mark(out.Field(i).Type()))
		}
	}
	return out
}

// dump writes out a value together with the spare capacity of its slices.
func dump(v reflect.Value) string {
	var out strings.Builder
	switch v.Kind() {
	case reflect.Interface:
		return dump(v.Elem())
	case reflect.Slice:
		full := v.Slice3(0, v.Cap(), v.Cap())
		fmt.Fprintf(&out, "%d[", v.Len())
		for i := range full.Len() {
			out.WriteString(dump(full.Index(i)) + " ")
		}
		out.WriteString("]")
	case reflect.Struct:
		for i := range v.NumField() {
			out.WriteString(dump(v.Field(i)) + " ")
		}
	default:
		fmt.Fprint(&out, v.Interface())
	}
	return out.String()
}

// span is the memory of one slice, with its spare capacity.
type span struct{ from, to uintptr }

// spansOf lists the memory of all slices of a value.
func spansOf(v reflect.Value) []span {
	var out []span
	switch v.Kind() {
	case reflect.Interface:
		return spansOf(v.Elem())
	case reflect.Slice:
		if v.Cap() > 0 {
			out = append(out, span{v.Pointer(), v.Pointer() + uintptr(v.Cap())*v.Type().Elem().Size()})
		}
		for i := range v.Len() {
			out = append(out, spansOf(v.Index(i))...)
		}
	case reflect.Struct:
		for i := range v.NumField() {
			out = append(out, spansOf(v.Field(i))...)
		}
	}
	return out
}

func overlap(a span, b span) bool { return a.from < b.to && b.from < a.to }

// checkPure checks that a call, repeated, returns the same, changes none of the arguments and no
// spare capacity behind them, and that its results share no memory with them or among themselves,
// nor with those of the call before.
func checkPure(t *testing.T, name string, args []any, call func() []any) {
	t.Helper()
	before := dump(reflect.ValueOf(args))
	results, again := call(), call()
	if fmt.Sprint(results) != fmt.Sprint(again) {
		t.Errorf("%s: %v, and then %v", name, results, again)
	}
	if dump(reflect.ValueOf(args)) != before {
		t.Errorf("%s changes an argument", name)
	}
	var theirs, ours []span
	for _, arg := range args {
		theirs = append(theirs, spansOf(reflect.ValueOf(arg))...)
	}
	for _, result := range append(results, again...) {
		ours = append(ours, spansOf(reflect.ValueOf(result))...)
	}
	for i, a := range ours {
		for _, b := range theirs {
			if overlap(a, b) {
				t.Errorf("%s: a result shares memory with an argument", name)
			}
		}
		for _, b := range ours[:i] {
			if overlap(a, b) {
				t.Errorf("%s: two slices of the results share memory", name)
			}
		}
	}
}

// numbers is a source of numbers that are the same in each run.
type numbers struct{ state uint64 }

// below returns the next number in 0..n - 1.
func (g *numbers) below(n int64) int64 {
	g.state = g.state*6364136223846793005 + 1442695040888963407
	return int64(g.state>>33) % n
}

// row returns a row of n numbers modulo p.
func (g *numbers) row(p int64, n int64) []int64 {
	out := make([]int64, n)
	for i := range out {
		out[i] = g.below(p)
	}
	return out
}

// table returns a table of numbers modulo p.
func (g *numbers) table(p int64, rows int64, columns int64) [][]int64 {
	out := make([][]int64, rows)
	for i := range out {
		out[i] = g.row(p, columns)
	}
	return out
}

// acceptedTexts counts the texts of some letters, at most as long as told, that a function accepts.
func acceptedTexts(letters string, longest int, accepts func(string) bool) int {
	texts, accepted := []string{""}, 0
	for length := range longest + 1 {
		var longer []string
		for _, text := range texts {
			if accepts(text) {
				accepted++
			}
			for _, letter := range letters {
				if length < longest {
					longer = append(longer, text+string(letter))
				}
			}
		}
		texts = longer
	}
	return accepted
}

// textsAround lists what arises from a text that is left off or loses a letter at any place, or has one of
// the given letters added to it or put in the place of another one.
func textsAround(text string, letters ...string) []string {
	var list []string
	for i := range len(text) {
		list = append(list, text[:i], text[:i]+text[i+1:])
		for _, letter := range letters {
			list = append(list, text[:i]+letter+text[i:], text[:i]+letter+text[i+1:])
		}
	}
	return list
}
