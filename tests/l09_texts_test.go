package tests

import (
	"fmt"
	"slices"
	"strings"
	"testing"

	"loop.example/g01273/impl"
)

func TestTextsOfBarsByHand(t *testing.T) {
	for want, list := range map[string][]impl.Bar{
		"":                         nil,
		"1:0-2,1:3-":               {bar(1, 0, 2), bar(1, 3, -1)},
		"0:0-0":                    {bar(0, 0, 0)},
		"5:5-5":                    {bar(5, 5, 5)},
		"5:5-":                     {bar(5, 5, -1)},
		"0:0-":                     {bar(0, 0, -1)},
		"0:0-5,0:0-,0:0-":          {bar(0, 0, 5), bar(0, 0, -1), bar(0, 0, -1)},
		"0:1-1,0:1-1,2:0-4,3:0-":   {bar(0, 1, 1), bar(0, 1, 1), bar(2, 0, 4), bar(3, 0, -1)},
		"4:2-3,4:2-5,4:2-,5:0-0":   {bar(4, 2, 3), bar(4, 2, 5), bar(4, 2, -1), bar(5, 0, 0)},
		"0:0-,1:1-,2:2-,3:3-,4:4-": {bar(0, 0, -1), bar(1, 1, -1), bar(2, 2, -1), bar(3, 3, -1), bar(4, 4, -1)},
	} {
		expectResults(t, "BarsText", all(want, 0), all(impl.BarsText(list)))
		expectResults(t, fmt.Sprintf("ParseBars(%q)", want), all(list, 0), all(impl.ParseBars(want)))
	}
}

func TestBarsComeBackFromTheirTexts(t *testing.T) {
	for _, list := range barLists(8) {
		text, code := impl.BarsText(list)
		expectResults(t, fmt.Sprintf("BarsText(%v)", list), all(plainText(list), 0), all(text, code))
		expectResults(t, fmt.Sprintf("ParseBars(%q)", text), all(list, 0), all(impl.ParseBars(text)))
	}
	for _, b := range allBars() {
		expectResults(t, "ParseBars of one bar", all([]impl.Bar{b}, 0), all(impl.ParseBars(plainText([]impl.Bar{b}))))
	}
	for _, k := range knownFiltereds(2) {
		list := barsOf(t, k.Filtered)
		expectResults(t, "ParseBars of the bars of a complex", all(list, 0), all(impl.ParseBars(plainText(list))))
	}
}

// TestTextsOfTheMostBars has MaxBars bars, and one more.
func TestTextsOfTheMostBars(t *testing.T) {
	for _, one := range []impl.Bar{bar(0, 0, -1), bar(5, 0, 5), bar(3, 3, 3)} {
		for count := range 3 * impl.MaxBars {
			list := slices.Repeat([]impl.Bar{one}, count)
			text := plainText(list)
			if count <= impl.MaxBars {
				expectResults(t, "BarsText", all(text, 0), all(impl.BarsText(list)))
				expectResults(t, "ParseBars "+text, all(list, 0), all(impl.ParseBars(text)))
			} else {
				expectCode(t, fmt.Sprint("BarsText of ", count), impl.ErrRange, all(impl.BarsText(list)))
				expectCode(t, fmt.Sprint("ParseBars of ", count), impl.ErrSyntax, all(impl.ParseBars(text)))
			}
		}
	}
	different := allBars()[20 : 20+impl.MaxBars]
	expectResults(t, "ParseBars of different ones", all(different, 0), all(impl.ParseBars(plainText(different))))
	expectCode(t, "ParseBars of different ones, and one more", impl.ErrSyntax, all(impl.ParseBars(plainText(allBars()[20:21+impl.MaxBars]))))
}

func TestTextsThatNoBarsHave(t *testing.T) {
	for _, text := range []string{
		" ", "\n", ",", ",,", ":", "-", ":-", "0", "0:", "0:0", "0-", "0-0", "0:-", "0:-0", "0:-1", ":0-", ":0-0", "::0-", "0::0-", "0:0--", "0:0--1", "0:0-0-", "0:0-1-2", "0:0-:", "0:0:0", "0:0:0-", "0-0:", "0-0:0", "-0:0-", "0:0-0:0-",
		"0:0-,", ",0:0-", "0:0-,,0:0-", "0:0-,,", "0:0-;0:0-", "0:0-.0:0-", "0:0- ,0:0-", "0:0-, 0:0-", "0:0-,0", "0:0-,0:", "0:0-,0:0", "0:0-,-",
		" 0:0-", "0 :0-", "0: 0-", "0:0 -", "0:0- ", "0:0- 0", "0:0-0 ", "0:0-\n", "0:0-0\n", "\n0:0-", "\t0:0-", "0:0-\x00", "\x000:0-",
		"+0:0-", "-1:0-", "0:+0-", "0:+1-", "0:0-+0", "0:0-+1", "0:--1-", "0:0--0", "0:-1-", "-0:0-", "0:-0-",
		"00:0-", "01:0-", "0:00-", "0:01-", "0:0-00", "0:0-01", "05:5-5", "5:05-5", "5:5-05", "0:0-000000000000000000000000",
		"6:0-", "6:0-0", "7:0-", "9:9-9", "0:6-", "0:6-6", "0:9-", "0:0-6", "0:0-9", "10:0-", "0:10-", "0:0-10", "0:0-12", "55:5-", "0:55-", "0:0-55",
		"18446744073709551616:0-", "0:18446744073709551616-", "0:0-18446744073709551616", "4294967296:0-", "0:4294967297-", "0:0-4294967297",
		"0:1-0", "0:5-0", "0:5-4", "0:3-1", "5:2-1", "0:0-,0:1-0",
		"1:0-,0:0-", "0:1-,0:0-", "0:0-1,0:0-0", "0:0-,0:0-5", "0:0-,0:0-0", "0:1-1,0:0-0", "2:0-,1:5-,3:0-", "0:0-,1:0-,0:0-",
		"a:0-", "0:a-", "0:0-a", "/:0-", "0:/-", "0:0-/", "0:0-:", "x", "0x0:0-", "0:0-0x0", "０:0-", "0:０-", "0:0-０", "٣:0-", "0:0‐", "0:0−1", "0：0-",
		"0.0:0-", "0:0.0-", "0:0-0.0", "1e0:0-", "0:0-1e0", "0_0:0-", "0:0-0_1", "{0 0 -1}", "[0:0-]", "0:0-inf", "\xff", "\xff:0-", "0:\xff-", "0:0-\xff",
		strings.Repeat("0:0-,", impl.MaxBars), strings.Repeat("0:0-,", 100000), strings.Repeat(",", 100000), strings.Repeat("0", 100000), strings.Repeat("0:0-", 100000), strings.Repeat("0:0-,", 100000) + "0:0-",
		"0:" + strings.Repeat("0", 100000) + "-", "0:0-" + strings.Repeat("1", 100000), strings.Repeat(":", 100000), strings.Repeat("-", 100000),
	} {
		expectCode(t, fmt.Sprintf("ParseBars(%.40q)", text), impl.ErrSyntax, all(impl.ParseBars(text)))
	}
}

// checkBarsText checks that a text is either the text of the bars that come back, or refused.
func checkBarsText(t *testing.T, text string) bool {
	list, code := impl.ParseBars(text)
	if code != impl.ErrNone {
		if code != impl.ErrSyntax || len(list) > 0 {
			t.Errorf("ParseBars(%q) = %v, %d", text, list, code)
		}
		return false
	}
	if plainText(list) != text || !arePlainBars(list) {
		t.Errorf("ParseBars(%q) = %v", text, list)
	}
	return true
}

func TestAllShortTextsOfBars(t *testing.T) {
	accepted := acceptedTexts(":,-0156", 6, func(text string) bool { return checkBarsText(t, text) })
	// none, and one bar of the degrees and levels 0, 1 and 5, with 3 Births and no Death, or 6 pairs of both
	if accepted != 1+3*3+3*6 {
		t.Errorf("%d short texts of bars", accepted)
	}
}

// TestTextsOfTwoBars has all pairs of bars, in both orders.
func TestTextsOfTwoBars(t *testing.T) {
	for _, a := range allBars() {
		for _, b := range allBars() {
			list := []impl.Bar{a, b}
			if got := checkBarsText(t, plainText(list)); got != arePlainBars(list) {
				t.Errorf("ParseBars takes %v: %v", list, got)
			}
		}
	}
}

// TestTextsOfBarsWithOneChange leaves out, changes and adds a letter at each place. What is accepted has
// to be the text of the bars that come back.
func TestTextsOfBarsWithOneChange(t *testing.T) {
	for _, list := range barLists(2) {
		text := plainText(list)
		for _, other := range textsAround(text, ":", ",", "-", "0", "1", "3", "5", "6", "9", " ", "+", "\n", "\xff") {
			checkBarsText(t, other)
		}
		if len(list) > 0 && checkBarsText(t, text+",") {
			t.Errorf("ParseBars takes %q with an empty part", text)
		}
	}
}

// TestDigitsOfBars has each digit at each place of a bar.
func TestDigitsOfBars(t *testing.T) {
	for n := range int64(10) {
		for b := range int64(10) {
			for d := int64(-1); d < 10; d++ {
				list := []impl.Bar{bar(n, b, d)}
				if got := checkBarsText(t, plainText(list)); got != isPlainBar(list[0]) {
					t.Errorf("ParseBars takes %v: %v", list, got)
				}
			}
		}
	}
}
