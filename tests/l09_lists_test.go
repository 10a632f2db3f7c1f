package tests

import (
	"fmt"
	"slices"
	"testing"

	"loop.example/g01273/impl"
)

// barsAround lists all bars, and others with a number that is out of its range by one.
func barsAround() []impl.Bar {
	var list []impl.Bar
	for n := int64(-1); n <= impl.MaxTop+1; n++ {
		for b := int64(-1); b <= impl.MaxLevel+1; b++ {
			for d := int64(-2); d <= impl.MaxLevel+1; d++ {
				list = append(list, bar(n, b, d))
			}
		}
	}
	return list
}

func expectAreBars(t *testing.T, want bool, list []impl.Bar) {
	t.Helper()
	if got := impl.AreBars(list); got != want {
		t.Errorf("AreBars(%v) = %v", list, got)
	}
}

func TestAreBarsOfOneAndTwo(t *testing.T) {
	expectAreBars(t, true, nil)
	expectAreBars(t, true, []impl.Bar{})
	around := barsAround()
	for _, a := range around {
		expectAreBars(t, isPlainBar(a), []impl.Bar{a})
		expectAreBars(t, isPlainBar(a), []impl.Bar{a, a})
		for _, b := range around {
			if list := []impl.Bar{a, b}; impl.AreBars(list) != arePlainBars(list) {
				t.Errorf("AreBars(%v) = %v", list, !arePlainBars(list))
			}
		}
	}
	if len(allBars()) != 162 {
		t.Errorf("%d bars", len(allBars()))
	}
	expectAreBars(t, false, allBars())
	for i := range allBars()[impl.MaxBars:] {
		expectAreBars(t, true, allBars()[i:i+impl.MaxBars])
		expectAreBars(t, false, allBars()[i:i+impl.MaxBars+1])
	}
}

func TestAreBarsByHand(t *testing.T) {
	for _, list := range [][]impl.Bar{
		{bar(0, 0, 0), bar(0, 0, 5), bar(0, 0, -1), bar(0, 1, 1), bar(0, 5, 5), bar(0, 5, -1), bar(1, 0, 0)},
		{bar(0, 5, -1), bar(5, 0, 0)}, {bar(5, 5, 5), bar(5, 5, -1)}, {bar(5, 5, -1), bar(5, 5, -1)}, {bar(3, 0, -1), bar(3, 1, 1)},
	} {
		expectAreBars(t, true, list)
		for i := range list[1:] {
			if list[i] == list[i+1] {
				continue
			}
			turned := slices.Clone(list)
			turned[i], turned[i+1] = turned[i+1], turned[i]
			expectAreBars(t, false, turned)
		}
	}
	for _, list := range [][]impl.Bar{
		{bar(1, 0, 0), bar(0, 0, 0)}, {bar(0, 1, 1), bar(0, 0, 1)}, {bar(0, 0, 1), bar(0, 0, 0)}, {bar(0, 0, -1), bar(0, 0, 5)},
		{bar(0, 3, 2)}, {bar(0, 5, 0)}, {bar(0, 0, -2)}, {bar(0, 0, 6)}, {bar(0, 6, 6)}, {bar(0, 6, -1)}, {bar(0, -1, -1)}, {bar(0, -1, 0)}, {bar(-1, 0, 0)}, {bar(6, 0, 0)}, {bar(6, 0, -1)},
		{bar(0, 0, 0), bar(1, 1, 0), bar(2, 0, 0)}, {bar(0, 0, 0), bar(0, 0, 0), bar(0, 0, 6)},
	} {
		expectAreBars(t, false, list)
	}
}

func TestListsOfBarsAreBars(t *testing.T) {
	for _, list := range barLists(4) {
		expectAreBars(t, true, list)
		for len(list) > 0 && len(list) <= impl.MaxBars {
			list = append(slices.Clone(list), list[len(list)-1])
		}
		expectAreBars(t, len(list) == 0, list)
	}
}

func TestCountsOfLists(t *testing.T) {
	for _, list := range barLists(6) {
		total, longest := int64(0), []impl.Bar{}
		lasting := make([]int64, impl.MaxTop+1)
		for _, b := range list {
			if b.Death < 0 {
				lasting[b.Degree]++
				continue
			}
			total += b.Death - b.Birth
			longest = append(longest, b)
		}
		expectCounts(t, lasting, list)
		expectResults(t, fmt.Sprintf("TotalLength(%v)", list), all(total, 0), all(impl.TotalLength(list)))
		name := fmt.Sprintf("LongestBar(%v)", list)
		if len(longest) == 0 {
			expectCode(t, name, impl.ErrNotFound, all(impl.LongestBar(list)))
			continue
		}
		// a stable order by lengths has the first one of the greatest length at its head
		slices.SortStableFunc(longest, func(a, b impl.Bar) int { return int(b.Death - b.Birth - a.Death + a.Birth) })
		expectResults(t, name, all(longest[0], 0), all(impl.LongestBar(list)))
	}
}

func TestCountsOfListsByHand(t *testing.T) {
	for _, c := range []struct {
		text    string
		total   int64
		longest impl.Bar
		lasting []int64
	}{
		{"0:0-0", 0, bar(0, 0, 0), nil},
		{"5:5-5", 0, bar(5, 5, 5), nil},
		{"0:1-1,0:2-2", 0, bar(0, 1, 1), nil},
		{"0:1-,0:2-2", 0, bar(0, 2, 2), []int64{1}},
		{"0:0-5,0:0-", 5, bar(0, 0, 5), []int64{1}},
		{"0:0-2,0:1-3,1:0-2", 6, bar(0, 0, 2), nil},
		{"0:0-1,0:1-3,0:2-4,1:0-2,1:0-", 7, bar(0, 1, 3), []int64{0, 1}},
		{"0:0-,1:0-3,1:0-3,5:0-,5:1-5,5:2-,5:3-", 10, bar(5, 1, 5), []int64{1, 0, 0, 0, 0, 3}},
		{"3:4-4,3:5-,4:0-1", 1, bar(4, 0, 1), []int64{0, 0, 0, 1}},
	} {
		list := barsWith(t, c.text)
		expectResults(t, "TotalLength of "+c.text, all(c.total, 0), all(impl.TotalLength(list)))
		expectResults(t, "LongestBar of "+c.text, all(c.longest, 0), all(impl.LongestBar(list)))
		expectCounts(t, c.lasting, list)
	}
	expectResults(t, "TotalLength of the longest", all(5*impl.MaxBars, 0), all(impl.TotalLength(slices.Repeat([]impl.Bar{bar(5, 0, 5)}, impl.MaxBars))))
	for _, text := range []string{"", "0:0-", "5:5-", "0:0-,0:5-,3:2-"} {
		expectCode(t, "LongestBar of "+text, impl.ErrNotFound, all(impl.LongestBar(barsWith(t, text))))
		expectResults(t, "TotalLength of "+text, all(0, 0), all(impl.TotalLength(barsWith(t, text))))
	}
}

func TestJoinBars(t *testing.T) {
	lists := barLists(3)
	joined, tooMany := 0, 0
	for i, a := range lists {
		for _, b := range lists[:i+1] {
			name := fmt.Sprintf("JoinBars(%v, %v)", a, b)
			want := inOrder(slices.Concat(a, b)...)
			if len(want) > impl.MaxBars {
				tooMany++
				expectCode(t, name, impl.ErrLimit, all(impl.JoinBars(a, b)))
				continue
			}
			joined++
			list, code := impl.JoinBars(a, b)
			expectResults(t, name, all(want, 0), all(list, code))
			expectResults(t, name+" in the other order", all(want, 0), all(impl.JoinBars(b, a)))
			expectAreBars(t, true, list)
		}
	}
	if joined < 1000 || tooMany < 1000 {
		t.Errorf("%d lists joined, %d too long", joined, tooMany)
	}
}

func TestJoinBarsByHand(t *testing.T) {
	for _, c := range [][3]string{
		{"", "", ""}, {"0:0-", "", "0:0-"}, {"0:0-", "0:0-", "0:0-,0:0-"},
		{"0:0-", "0:0-5", "0:0-5,0:0-"}, {"1:0-0", "0:5-", "0:5-,1:0-0"}, {"0:1-1", "0:0-", "0:0-,0:1-1"},
		{"0:0-1,0:2-,3:3-3", "0:0-1,0:2-4,2:5-,5:0-", "0:0-1,0:0-1,0:2-4,0:2-,2:5-,3:3-3,5:0-"},
	} {
		for _, order := range [][2]string{{c[0], c[1]}, {c[1], c[0]}} {
			list, code := impl.JoinBars(barsWith(t, order[0]), barsWith(t, order[1]))
			expectResults(t, fmt.Sprint("JoinBars of ", order), all(c[2], 0), all(plainText(list), code))
		}
	}
}

// TestMostJoinedBars has MaxBars bars together, and one more.
func TestMostJoinedBars(t *testing.T) {
	for most := range impl.MaxBars + 1 {
		a, b := allBars()[:most], allBars()[100:100+impl.MaxBars-most]
		expectResults(t, fmt.Sprint("JoinBars at the limit with ", most), all(slices.Concat(a, b), 0), all(impl.JoinBars(b, a)))
		longer := allBars()[100 : 100+impl.MaxBars-most+1]
		if most > 0 {
			expectCode(t, fmt.Sprint("JoinBars beyond the limit with ", most), impl.ErrLimit, all(impl.JoinBars(a, longer)))
			expectCode(t, fmt.Sprint("JoinBars beyond the limit before ", most), impl.ErrLimit, all(impl.JoinBars(longer, a)))
		}
	}
	full := slices.Repeat([]impl.Bar{bar(0, 0, -1)}, impl.MaxBars)
	expectCode(t, "JoinBars of twice the most", impl.ErrLimit, all(impl.JoinBars(full, full)))
}

// TestJoinedBarsAreThoseOfSums has the bars of sums of complexes.
func TestJoinedBarsAreThoseOfSums(t *testing.T) {
	sums := 0
	list := knownFiltereds(4)
	for i, k := range list[1:] {
		other := list[i]
		if other.Complex.Prime != k.Complex.Prime {
			continue
		}
		sum, code := impl.AddComplexes(other.Complex, k.Complex)
		joined, joinedCode := impl.JoinBars(barsOf(t, other.Filtered), barsOf(t, k.Filtered))
		if code != impl.ErrNone || joinedCode != impl.ErrNone {
			continue
		}
		sums++
		x := impl.Filtered{Complex: sum}
		for n := range sum.Dims {
			var levels []int64
			for _, part := range []impl.Filtered{other.Filtered, k.Filtered} {
				if n < len(part.Levels) {
					levels = append(levels, part.Levels[n]...)
				}
			}
			x.Levels = append(x.Levels, levels)
		}
		expectResults(t, "BarsOf a sum", all(joined, 0), all(impl.BarsOf(x)))
	}
	if sums < 10 {
		t.Errorf("%d sums", sums)
	}
}
