package tests

import (
	"fmt"
	"strings"
	"testing"

	"loop.example/g01273/impl"
)

// expectScript executes lines, one after the other, on a desk, and checks their outputs. Each line has its
// output behind an arrow.
func expectScript(t *testing.T, d impl.Desk, script ...string) impl.Desk {
	t.Helper()
	for _, one := range script {
		line, want, _ := strings.Cut(one, " -> ")
		after, output := impl.RunLine(d, line)
		if output != want {
			t.Errorf("%q on %v has the output %q, want %q", line, d, output, want)
		}
		if !impl.IsDesk(after) {
			t.Fatalf("%q on %v leads to %v", line, d, after)
		}
		d = after
	}
	return d
}

func TestNewDesk(t *testing.T) {
	want := impl.Desk{
		First:  impl.Filtered{Complex: complexOf(3, []int64{2, 2}, [][]int64{{0, 1}, {0, 0}}), Levels: [][]int64{{0, 1}, {1, 2}}},
		Second: complexOf(3, []int64{1}),
	}
	expectResults(t, "NewDesk", all(want), all(impl.NewDesk()))
	if !impl.IsDesk(impl.NewDesk()) {
		t.Error("the new desk is none")
	}
	checkPure(t, "NewDesk", nil, func() []any { return all(impl.NewDesk()) })
	expectScript(t, impl.NewDesk(), "last -> 1")
}

// TestEachLineByHand has each line of the list on the new desk.
func TestEachLineByHand(t *testing.T) {
	for _, one := range []string{
		"first 5:1,2:3,0 -> 5:1,2:3,0", "second 5:1,2:3,0 -> 5:1,2:3,0", "named point 2 -> 2:1:", "named circle 7 -> 7:1,1:0", "named torus 5 -> 5:1,2,1:0,0;00", "named disc 3 -> 3:2,2:01,00",
		"sphere 2 0 -> 2:1:", "sphere 7 3 -> 7:0,0,0,1:-;-;-", "swap -> 3:1:", "sum -> 3:3,2:010,000", "shift 0 -> 3:2,2:01,00", "shift 1 -> 3:0,2,2:-,-;02,00", "shift 4 -> 3:0,0,0,0,2,2:-;-;-;-,-;01,00",
		"dual -> 3:2,2:00,10", "tensor -> 3:2,2:01,00", "power 0 -> 3:1:", "power 1 -> 3:2,2:01,00", "power 2 -> 3:4,8,4:0100,0000,0001,0000,0010,0001,0000,0000;00100200,00010000,00000002,00000000",
		"cone -> 3:2,4,2:01,00,10,01;1002,0100", "holes -> 3:1,1:0", "lift 0 0 1 -> 1,1;1,2", "lift 1 0 3 -> 0,1;3,2", "lift 1 1 0 -> 0,1;1,0", "part 0 -> 3:1,0:-", "part 1 -> 3:2,1:01", "part 2 -> 3:2,2:01,00",
		"show -> 3:2,2:01,00", "other -> 3:1:", "levels -> 0,1;1,2", "homology -> 1 1", "euler -> 0", "page 0 -> 1,1,0,0,0,0;0,1,1,0,0,0", "page 1 -> 1,0,0,0,0,0;0,0,1,0,0,0", "page 8 -> 1,0,0,0,0,0;0,0,1,0,0,0",
		"number 0 0 1 -> 1", "number 1 0 1 -> 0", "number 8 1 2 -> 1", "rank 0 1 1 -> 1", "rank 0 1 2 -> 0", "rank 1 1 1 -> 0", "limit 0 0 -> 1", "limit 0 1 -> 0", "limit 1 2 -> 1", "last -> 1",
		"free 0 -> none", "free 1 -> 0", "reset -> ok",
	} {
		expectScript(t, impl.NewDesk(), one)
	}
}

// TestLinesByHand has lines that work on what the lines before left.
func TestLinesByHand(t *testing.T) {
	// levels are kept by what tells of them, and are 0 for each new C
	d := expectScript(t, impl.NewDesk(), "lift 1 0 4 -> 0,1;4,2", "last -> 4", "part 3 -> 3:2,1:00", "levels -> 0,1;2", "homology -> 2 1", "shift 0 -> 3:2,1:00", "levels -> 0,0;0",
		"lift 1 0 5 -> 0,0;5", "lift 0 0 5 -> 5,0;5", "free 1 -> none", "swap -> 3:1:", "levels -> 0", "other -> 3:2,1:00", "swap -> 3:2,1:00", "levels -> 0,0;0")
	expectResults(t, "the desk", all(deskOf(t, "3:2,1:00", "3:1:")), all(d))
	// euler numbers less than 0, sums, and C and Y of different primes
	expectScript(t, impl.NewDesk(), "first 2:0,3:-,-,- -> 2:0,3:-,-,-", "euler -> -3", "sum -> error", "tensor -> error", "second 2:1,1:1 -> 2:1,1:1", "sum -> 2:1,4:0,0,0,1", "euler -> -3",
		"homology -> 0 3", "free 1 -> 3", "first 2:1,3:1,1,0 -> 2:1,3:1,1,0", "free 1 -> 1", "first 2:2,2:10,01 -> 2:2,2:10,01", "free 1 -> 0 1", "free 0 -> none", "holes -> 2:0,0:-", "levels -> ;", "page 3 -> 0,0,0,0,0,0;0,0,0,0,0,0")
	// no numbers at all
	expectScript(t, impl.NewDesk(), "sphere 5 2 -> 5:0,0,1:-;-", "levels -> ;;0", "part 0 -> 5:0,0,1:-;-", "lift 2 0 1 -> ;;1", "part 0 -> 5:0,0,0:-;-", "levels -> ;;", "lift 2 0 1 -> error", "homology -> 0 0 0",
		"euler -> 0", "last -> 0", "free 2 -> none", "dual -> 5:0,0,0:-;-", "first 2:0: -> 2:0:", "levels -> ", "homology -> 0", "cone -> 2:0,0:-", "power 4 -> 2:0,0,0,0,0:-;-;-;-", "power 0 -> 2:1:", "levels -> 0")
	// reset takes back all
	d = expectScript(t, impl.NewDesk(), "second 7:2,2:11,22 -> 7:2,2:11,22", "named torus 2 -> 2:1,2,1:0,0;00", "levels -> 0;1,1;2", "homology -> 1 2 1", "other -> 7:2,2:11,22", "reset -> ok", "show -> 3:2,2:01,00", "other -> 3:1:", "levels -> 0,1;1,2")
	expectResults(t, "the desk", all(impl.NewDesk()), all(d))
	// lines with the output error leave levels and Y
	expectScript(t, impl.NewDesk(), "lift 1 0 5 -> 0,1;5,2", "second 5:1: -> 5:1:", "sum -> error", "fly -> error", "shift 5 -> error", "power 3 -> error", "first x -> error", "second x -> error", "levels -> 0,1;5,2", "show -> 3:2,2:01,00", "other -> 5:1:")
}

// TestLinesOnDesks holds all lines on desks of all primes and tops against the functions that the list names.
func TestLinesOnDesks(t *testing.T) {
	g := &numbers{state: 212}
	executed, refused := map[string]int{}, map[string]int{}
	for _, d := range desks(t, 2) {
		for _, row := range lineRows() {
			lines := linesAt(g, d, row)
			for _, line := range lines {
				if len(lines) > 60 && g.below(int64(len(lines))) > 60 {
					continue
				}
				want := plainLine(d, line)
				expectOutcome(t, d, line, want)
				if want.output == "error" {
					refused[row.word()]++
				} else {
					executed[row.word()]++
				}
			}
		}
	}
	for _, row := range lineRows() {
		if executed[row.word()] < 40 || strings.Contains(row.line, " ") && refused[row.word()] < 40 {
			t.Errorf("%q: executed %d times, refused %d times", row.line, executed[row.word()], refused[row.word()])
		}
	}
	for _, limited := range []string{"sum", "tensor", "cone"} {
		if refused[limited] < 10 {
			t.Errorf("%q: refused %d times", limited, refused[limited])
		}
	}
}

// TestLinesThatTellChangeNothing has desks that are the same behind each line that tells something.
func TestLinesThatTellChangeNothing(t *testing.T) {
	g := &numbers{state: 213}
	for _, d := range desks(t, 1) {
		for _, row := range telling {
			lines := linesAt(g, d, row)
			line := lines[g.below(int64(len(lines)))]
			after, output := impl.RunLine(d, line)
			if output == "" && line != "levels" {
				t.Errorf("%q on %v has no output", line, d)
			}
			expectResults(t, fmt.Sprintf("%q on %v", line, d), all(d), all(after))
		}
	}
}

// TestLinesAfterLines has desks that come from many lines, each from the one before.
func TestLinesAfterLines(t *testing.T) {
	g := &numbers{state: 214}
	sizes, changes := map[string]bool{}, 0
	for range 60 {
		d := impl.NewDesk()
		for range 60 {
			row := changing[g.below(int64(len(changing)-1))] // without reset
			lines := linesAt(g, d, row)
			line := lines[g.below(int64(len(lines)))]
			want := plainLine(d, line)
			expectOutcome(t, d, line, want)
			if fmt.Sprint(want.desk.First.Complex.Dims) != fmt.Sprint(d.First.Complex.Dims) {
				sizes[fmt.Sprint(want.desk.First.Complex.Dims)] = true
				changes++
			}
			d, _ = impl.RunLine(d, line)
		}
	}
	if len(sizes) < 60 || changes < 300 {
		t.Errorf("%d sizes, and %d changes of them", len(sizes), changes)
	}
}

// TestEdgesOfLift has the last basis vector of each degree and one more, and each level.
func TestEdgesOfLift(t *testing.T) {
	lifted := 0
	for _, d := range desks(t, 1) {
		x := d.First
		for n := range len(x.Levels) + 2 {
			dim := 0
			if n < len(x.Levels) {
				dim = len(x.Levels[n])
			}
			for q := range impl.MaxLevel + 2 {
				expectErrors(t, d, fmt.Sprintf("lift %d %d %d", n, dim, q), fmt.Sprintf("lift %d %d %d", n, dim+1, q), fmt.Sprintf("lift %d 999999999 %d", n, q), fmt.Sprintf("lift 999999999 0 %d", q))
				if dim == 0 {
					continue
				}
				line := fmt.Sprintf("lift %d %d %d", n, dim-1, q)
				want, code := plainLift(d, int64(n), int64(dim-1), int64(q))
				if code != impl.ErrNone {
					expectErrors(t, d, line)
					continue
				}
				expectOutcome(t, d, line, want)
				lifted++
			}
		}
	}
	if lifted < 300 {
		t.Errorf("%d levels", lifted)
	}
	// the differential of the edge leads to the first vertex alone
	d := impl.Desk{First: leveled(t, "7:2,2:30,00", []int64{2, 4}, []int64{3, 0}), Second: parsed(t, "2:0:")}
	expectScript(t, d, "lift 1 0 2 -> 2,4;2,0", "lift 1 0 2 -> 2,4;2,0", "lift 0 0 0 -> 0,4;2,0", "lift 0 1 5 -> 0,5;2,0", "lift 1 1 5 -> 0,5;2,5", "lift 1 0 0 -> 0,5;0,5")
	expectErrors(t, d, "lift 1 0 1", "lift 1 0 0", "lift 0 0 4", "lift 0 0 5", "lift 0 0 6", "lift 0 1 6", "lift 1 1 6", "lift 1 0 6", "lift 0 0 999999999")
}

// TestEdgesOfParts has each level, for levels of all kinds.
func TestEdgesOfParts(t *testing.T) {
	d := impl.Desk{First: leveled(t, "5:2,3:21,01,00", []int64{0, 3}, []int64{4, 3, 1}), Second: parsed(t, "2:1:")}
	for q, want := range []string{"5:1,0:-", "5:1,1:0", "5:1,1:0", "5:2,2:01,00", "5:2,3:21,01,00", "5:2,3:21,01,00"} {
		expectScript(t, d, fmt.Sprintf("part %d -> %s", q, want))
	}
	expectScript(t, d, "part 3 -> 5:2,2:01,00", "levels -> 0,3;3,1", "part 5 -> 5:2,2:01,00", "part 1 -> 5:1,1:0", "levels -> 0;1", "part 0 -> 5:1,0:-", "levels -> 0;", "other -> 2:1:")
	expectErrors(t, d, "part 6", "part 7", "part 999999999")
	for _, d := range desks(t, 2) {
		for q := range int64(impl.MaxLevel + 1) {
			part, _ := impl.PartOf(d.First, q)
			expectOutcome(t, d, fmt.Sprintf("part %d", q), outcome{impl.Desk{First: part, Second: d.Second}, plainComplexText(part.Complex)})
		}
	}
}
