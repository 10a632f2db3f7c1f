package tests

import (
	"fmt"
	"slices"
	"strings"
	"testing"

	"loop.example/g01273/impl"
)

// expectConsole checks the outputs of a text and the desk after it.
func expectConsole(t *testing.T, text string, want string, desk impl.Desk) {
	t.Helper()
	if got := impl.Console(text); got != want {
		t.Errorf("Console(%q) = %q, want %q", text, got, want)
	}
	expectResults(t, fmt.Sprintf("DeskAfter(%q)", text), all(desk, true), all(impl.DeskAfter(text)))
}

// expectRefused checks that a text exceeds limits.
func expectRefused(t *testing.T, text string) {
	t.Helper()
	if got := impl.Console(text); got != "" {
		t.Errorf("Console of %d bytes = %q", len(text), got)
	}
	expectResults(t, fmt.Sprintf("DeskAfter of %d bytes", len(text)), all(impl.Desk{}, false), all(impl.DeskAfter(text)))
}

// joinedOutputs returns the outputs of lines on the new desk, each with a newline behind it, and the desk after them.
func joinedOutputs(lines []string) (string, impl.Desk) {
	d, outputs := impl.NewDesk(), ""
	for _, line := range lines {
		if line == "" {
			continue
		}
		after, output := impl.RunLine(d, line)
		d, outputs = after, outputs+output+"\n"
	}
	return outputs, d
}

func TestConsolesByHand(t *testing.T) {
	disc := impl.NewDesk()
	for text, want := range map[string]string{
		"last": "1\n", "last\n": "1\n", "\nlast": "1\n", "\n\nlast\n\n": "1\n", "last\nlast\n": "1\n1\n", "last\n\n\nlast": "1\n1\n", "fly": "error\n", " ": "error\n", " \n \n": "error\nerror\n", "last \n": "error\n", "last\r\n": "error\n", "last\r\nlast\r\n": "error\nerror\n",
		"\x00": "error\n", "fly\nlast\nfly": "error\n1\nerror\n", "first 2:1,1: 1\nlast": "error\n1\n", "first \nfirst\nshow": "error\nerror\n3:2,2:01,00\n", "last;last": "error\n", "reset\nreset": "ok\nok\n", "free 0\n": "none\n", "last\v\nlast\f\nlast\u2028last\n": "error\nerror\nerror\n",
	} {
		expectConsole(t, text, want, disc)
	}
	expectConsole(t, "first 2:0:\nlevels\n\nhomology", "2:0:\n\n0\n", impl.Desk{First: plainFlat(parsed(t, "2:0:")), Second: disc.Second})
	expectConsole(t, "first 2:0,0,0:-;-\nlevels\nlevels", "2:0,0,0:-;-\n;;\n;;\n", impl.Desk{First: plainFlat(parsed(t, "2:0,0,0:-;-")), Second: disc.Second})
	sum := "3:3,8,4:100,200,010,020,010,000,001,002;00102000,00011000,00000200,00000100"
	expectConsole(t, "second 3:1,2:1,2\ntensor\nlevels\nlift 2 3 4\nsum\ncone\nrank 1 1 1\nlevels\nswap\neuler",
		"3:1,2:1,2\n3:2,6,4:10,20,01,02,01,00;001020,000110,000002,000001\n0,0;0,0,0,0,0,0;0,0,0,0\n0,0;0,0,0,0,0,0;0,0,0,4\n"+sum+"\nerror\n0\n0,0,0;0,0,0,0,0,0,0,0;0,0,0,0\n3:1,2:1,2\n-1\n",
		impl.Desk{First: plainFlat(parsed(t, "3:1,2:1,2")), Second: parsed(t, sum)})
	expectConsole(t, "lift 1 0 5\nlift 0 0 4\npage 4\npage 5\nlast\npart 4\nlevels", "0,1;5,2\n4,1;5,2\n0,1,0,0,1,0;0,0,1,0,0,1\n0,0,0,0,1,0;0,0,1,0,0,0\n5\n3:2,1:00\n4,1;2\n", impl.Desk{First: leveled(t, "3:2,1:00", []int64{4, 1}, []int64{2}), Second: disc.Second})
}

func TestConsolesWithoutLines(t *testing.T) {
	for count := range impl.MaxLines + 1 {
		expectConsole(t, strings.Repeat("\n", count), "", impl.NewDesk())
	}
	for _, count := range []int{1, 2, 10, 1000, impl.MaxConsole - impl.MaxLines, impl.MaxConsole - impl.MaxLines + 1, impl.MaxConsole} {
		expectRefused(t, strings.Repeat("\n", impl.MaxLines+count))
	}
}

// TestConsolesJoinOutputs has texts of many lines, some of them empty, with and without the last newline.
func TestConsolesJoinOutputs(t *testing.T) {
	g := &numbers{state: 216}
	lengths := map[int]bool{}
	for range 300 {
		var lines []string
		d, list := impl.NewDesk(), lineRows()
		for range g.below(impl.MaxLines + 1) {
			row := list[g.below(int64(len(list)))]
			choices := linesAt(g, d, row)
			line := choices[g.below(int64(len(choices)))]
			if g.below(8) == 0 {
				line = []string{"", "", "fly", " ", line + " "}[g.below(5)]
			}
			lines = append(lines, line)
			_, d = joinedOutputs(lines)
		}
		want, after := joinedOutputs(lines)
		for _, text := range []string{strings.Join(lines, "\n"), strings.Join(append(slices.Clone(lines), ""), "\n")} {
			if len(text) > impl.MaxConsole {
				expectRefused(t, text)
			} else {
				expectConsole(t, text, want, after)
				lengths[len(lines)] = true
			}
		}
		if !impl.IsDesk(after) {
			t.Errorf("%q leads to no desk", lines)
		}
	}
	for _, count := range []int{0, 1, 2, impl.MaxLines - 1, impl.MaxLines} {
		if !lengths[count] {
			t.Errorf("no text has %d lines", count)
		}
	}
}

// TestMostLines has MaxLines lines, and one more, empty ones included.
func TestMostLines(t *testing.T) {
	for _, line := range []string{"last", "fly", "", " ", "shift 0"} {
		lines := slices.Repeat([]string{line}, impl.MaxLines)
		want, after := joinedOutputs(lines)
		text := strings.Join(lines, "\n")
		expectConsole(t, text+"\n", want, after)
		expectRefused(t, text+"\n\n")
		expectRefused(t, text+"\nlast")
		expectRefused(t, text+"\n ")
		expectRefused(t, "\n"+text+"\n")
		if line != "" { // an empty line is none without its newline
			expectConsole(t, text, want, after)
			expectRefused(t, "\n"+text)
			expectRefused(t, text+"\nfly\n")
		}
	}
	empty := strings.Repeat("\n", impl.MaxLines-1)
	expectConsole(t, empty, "", impl.NewDesk())
	expectConsole(t, empty+"last", "1\n", impl.NewDesk())
	expectConsole(t, empty+"last\n", "1\n", impl.NewDesk())
	expectConsole(t, "last"+empty+"last", "1\n1\n", impl.NewDesk())
	expectConsole(t, "last\n"+empty, "1\n", impl.NewDesk())
	expectRefused(t, empty+"last\n\n")
	expectRefused(t, empty+"last\nlast")
	expectRefused(t, "last\n"+empty+"last")
	expectRefused(t, "last\n"+empty+"\n")
	expectRefused(t, empty+"\n\n")
}

// TestMostBytes has MaxConsole bytes, and one more, of any kind and at any place.
func TestMostBytes(t *testing.T) {
	room := impl.MaxConsole - len("last\n")
	for _, fill := range []string{"x", " ", "0", "\x00", "\xff"} {
		expectConsole(t, "last\n"+strings.Repeat(fill, room), "1\nerror\n", impl.NewDesk())
		expectConsole(t, "last\n"+strings.Repeat(fill, room-1)+"\n", "1\nerror\n", impl.NewDesk())
		expectConsole(t, strings.Repeat(fill, room-1)+"\nlast\n", "error\n1\n", impl.NewDesk())
		expectConsole(t, strings.Repeat(fill, room)+"\nlast", "error\n1\n", impl.NewDesk())
		expectRefused(t, "last\n"+strings.Repeat(fill, room+1))
		expectRefused(t, "last\n"+strings.Repeat(fill, room)+"\n")
		expectRefused(t, strings.Repeat(fill, room)+"\nlast\n")
		expectRefused(t, strings.Repeat(fill, room+1)+"\nlast")
		expectRefused(t, strings.Repeat(fill, 1000000))
	}
	// bytes are counted, not characters
	expectConsole(t, "last\n"+strings.Repeat("é", room/2)+"x", "1\nerror\n", impl.NewDesk())
	expectRefused(t, "last\n"+strings.Repeat("é", room/2+1))
	expectRefused(t, strings.Repeat("é", impl.MaxConsole-1))
	expectConsole(t, strings.Repeat("x", impl.MaxConsole), "error\n", impl.NewDesk())
	expectConsole(t, strings.Repeat(" ", impl.MaxConsole-1)+"\n", "error\n", impl.NewDesk())
	expectRefused(t, strings.Repeat(strings.Repeat("x", 100)+"\n", impl.MaxLines))
	expectConsole(t, strings.Repeat(strings.Repeat("x", 99)+"\n", impl.MaxLines), strings.Repeat("error\n", impl.MaxLines), impl.NewDesk())
	expectRefused(t, strings.Repeat(strings.Repeat("x", 97)+"\n", impl.MaxLines+1))
}

// TestOutputsMayBeLong has a text whose outputs are longer than a text may be.
func TestOutputsMayBeLong(t *testing.T) {
	wide := "7:8,8,8,8,8,8:" + strings.TrimSuffix(strings.Repeat(strings.TrimSuffix(strings.Repeat("00000000,", 8), ",")+";", 5), ";")
	text := "first " + wide + "\n" + strings.Repeat("show\n", impl.MaxLines-1)
	want, after := joinedOutputs(slices.Insert(slices.Repeat([]string{"show"}, impl.MaxLines-1), 0, "first "+wide))
	expectConsole(t, text, want, after)
	if want != strings.Repeat(wide+"\n", impl.MaxLines) || len(want) <= 3*impl.MaxConsole {
		t.Errorf("the outputs have %d bytes", len(want))
	}
}

func TestConsolesArePure(t *testing.T) {
	g := &numbers{state: 217}
	for _, text := range []string{"", "\n", "last", "swap\nfly\nlift 0 0 0\nshow\nlevels", "reset\n", "fly", "part 1\nsecond 2:1:", strings.Repeat("\n", impl.MaxLines+1), strings.Repeat("x", impl.MaxConsole+1)} {
		checkPure(t, fmt.Sprintf("DeskAfter(%q)", text), nil, func() []any { return all(impl.DeskAfter(text)) })
		checkPure(t, fmt.Sprintf("Console(%q)", text), nil, func() []any { return all(impl.Console(text)) })
	}
	for _, row := range lineRows() {
		lines := linesAt(g, impl.NewDesk(), row)
		text := lines[g.below(int64(len(lines)))]
		checkPure(t, fmt.Sprintf("DeskAfter(%q)", text), nil, func() []any { return all(impl.DeskAfter(text)) })
	}
}
