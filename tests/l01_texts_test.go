package tests

import (
	"fmt"
	"strings"
	"testing"

	"loop.example/g01273/impl"
)

func TestTextsByHand(t *testing.T) {
	for want, x := range map[string]impl.Complex{
		"2:0:":                    {Prime: 2, Dims: []int64{0}},
		"7:8:":                    {Prime: 7, Dims: []int64{8}, Maps: [][][]int64{}},
		"2:1,1:1":                 {Prime: 2, Dims: []int64{1, 1}, Maps: [][][]int64{{{1}}}},
		"5:2,0:-":                 {Prime: 5, Dims: []int64{2, 0}, Maps: [][][]int64{{}}},
		"5:0,0:-":                 {Prime: 5, Dims: []int64{0, 0}, Maps: [][][]int64{nil}},
		"5:0,2:-,-":               {Prime: 5, Dims: []int64{0, 2}, Maps: [][][]int64{{nil, {}}}},
		"7:2,1,0,1:06;-;-":        {Prime: 7, Dims: []int64{2, 1, 0, 1}, Maps: [][][]int64{{{0, 6}}, {}, {{}}}},
		"3:3,3,1:210,201,021;121": {Prime: 3, Dims: []int64{3, 3, 1}, Maps: [][][]int64{{{2, 1, 0}, {2, 0, 1}, {0, 2, 1}}, {{1, 2, 1}}}},
	} {
		expectResults(t, "ComplexText", all(want, 0), all(impl.ComplexText(x)))
		expectResults(t, "ParseComplex "+want, all(x, 0), all(impl.ParseComplex(want)))
	}
}

func TestComplexesComeBackFromTheirTexts(t *testing.T) {
	for _, k := range knownComplexes(12) {
		expectResults(t, "ParseComplex", all(k.Complex, 0), all(impl.ParseComplex(textOf(t, k.Complex))))
	}
	for _, dims := range [][]int64{{2, 2, 1}, {0, 1, 2}, {1, 0, 0, 1}, {1, 1, 1, 1, 1, 1}} {
		complexes, others := smallComplexes(2, dims...)
		for _, x := range complexes {
			expectResults(t, "ParseComplex", all(x, 0), all(impl.ParseComplex(textOf(t, x))))
		}
		for _, x := range others {
			expectCode(t, fmt.Sprint("ComplexText of no complex ", x), impl.ErrInvalid, all(impl.ComplexText(x)))
		}
	}
}

func TestTextsThatNoComplexHas(t *testing.T) {
	for _, text := range []string{
		"", ":", "::", ":::", "2", "2:", "2:1", "2:1:0", "2:1:-", "2:1::", "2:1:;", "2:1:\n", "\n2:1:", " 2:1:", "2: 1:", "2:1 :",
		"02:1:", "2:01:", "+2:1:", "2:+1:", "-2:1:", "2:-1:", "2:-:", "0:1:", "1:1:", "4:1:", "6:1:", "9:1:", "11:1:", "13:1:", "a:1:", ":1:",
		"2::", "2:9:", "2:10:", "2:1,:", "2:,1:", "2:1,,1:", "2:1;1:", "2:/:", "2:a:", "２:1:", "2:１:",
		"2:1,1", "2:1,1:", "2:1,1:-", "2:1,1:2", "2:1,1:00", "2:1,1:0,", "2:1,1:,0", "2:1,1:0,0", "2:1,1:0;", "2:1,1:;0", "2:1,1:0;0", "2:1,1:0:",
		"2:1,1:a", "2:1,1:/", "2:1,1:１", "2:1,1: 1", "2:1,1:1 ", "3:1,1:3", "5:1,1:5", "7:1,1:7", "7:1,1:8", "7:1,1:9",
		"2:0,1:", "2:0,1:0", "2:0,1:--", "2:0,1:-,", "2:0,1:-,-", "2:0,2:-", "2:0,2:-;-", "2:1,0:", "2:1,0:0", "2:1,0:--", "2:1,0:-,-", "2:0,0:", "2:0,0:0",
		"2:2,1:1", "2:2,1:111", "2:2,1:1,1", "2:1,2:11", "2:1,2:1", "2:1,2:1,1,1", "2:1,2:1;1",
		"2:1,1,1:1;1", "3:1,1,1:1;2", "2:1,1,1:1", "2:1,1,1:1,0", "2:1,1,1:1;0;0", "2:1,1,1:1;0;",
		"2:0,0,0,0,0,0,0:-;-;-;-;-;-", "2:0,0,0,0,0,0,0,0:-;-;-;-;-;-;-", "2:0,0,0,0,0,0:-;-;-;-", "2:0,0,0,0,0,0:-;-;-;-;-;-",
		strings.Repeat("2:1:", 1000), strings.Repeat(":", 100000), "2:" + strings.Repeat("0,", 100000) + "0:" + strings.Repeat("-;", 100000),
		"2:1,1:" + strings.Repeat("1", 100000), "2:1,1:" + strings.Repeat("1,", 100000), "\x00", "2:1:\x00", "\xff\xfe:1:",
	} {
		expectCode(t, fmt.Sprintf("ParseComplex(%.40q)", text), impl.ErrSyntax, all(impl.ParseComplex(text)))
	}
}

// checkText checks that a text is either the text of the complex that comes back, or refused.
func checkText(t *testing.T, text string) bool {
	x, code := impl.ParseComplex(text)
	if code != impl.ErrNone {
		expectCode(t, fmt.Sprintf("ParseComplex(%q)", text), impl.ErrSyntax, all(x, code))
		return false
	}
	if back, backCode := impl.ComplexText(x); !impl.IsComplex(x) || back != text || backCode != impl.ErrNone {
		t.Errorf("ParseComplex(%q) = %v, whose text is %q, %d", text, x, back, backCode)
	}
	return true
}

func TestAllShortTexts(t *testing.T) {
	accepted := acceptedTexts(":,;-012", 7, func(text string) bool { return checkText(t, text) })
	// 2:0: 2:1: 2:2:, then 2:0,0:- 2:0,1:- 2:1,0:- 2:2,0:- 2:1,1:0 2:1,1:1
	if accepted != 9 {
		t.Errorf("%d short texts of complexes", accepted)
	}
}

func TestTextsWithOneChange(t *testing.T) {
	for _, k := range knownComplexes(1) {
		for _, text := range textsAround(textOf(t, k.Complex), ":", ",", ";", "-", "0", "1", "2", "7", "9", " ", "\n", "\xff") {
			checkText(t, text)
		}
	}
}
