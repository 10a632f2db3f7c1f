package tests

import (
	"fmt"
	"regexp"
	"slices"
	"strconv"
	"strings"
	"testing"

	"loop.example/g01273/impl"
)

// The functions of this file make desks, and execute lines on them in the plainest way: by a form of the
// whole line for each row of the chapter's list, and the functions that the row names.

// outcome is a desk after a line, and the output.
type outcome struct {
	desk   impl.Desk
	output string
}

// rowOfLines is a row of the chapter's list: its line, its form, and what is done with its TEXT or NAME and
// its numbers k. What is done has, ahead of the code, the new X or C, what is put out, or both the desk and
// the output.
type rowOfLines struct {
	line string
	form *regexp.Regexp
	done func(d impl.Desk, text string, k []int64) []any
}

// lineRow makes a row of the list.
func lineRow(line string, done func(d impl.Desk, text string, k []int64) []any) rowOfLines {
	words := strings.Split(line, " ")
	for i, word := range words[1:] {
		switch word {
		case "TEXT":
			words[i+1] = "(.*)"
		case "NAME":
			words[i+1] = "([^ ]*)"
		default:
			words[i+1] = "(0|[1-9][0-9]{0,8})"
		}
	}
	return rowOfLines{line, regexp.MustCompile(`(?s)\A` + strings.Join(words, " ") + `\z`), done}
}

// word returns the command of a row.
func (r rowOfLines) word() string { return strings.Split(r.line, " ")[0] }

// changing are the rows that may change a desk.
var changing = []rowOfLines{
	lineRow("first TEXT", func(d impl.Desk, text string, k []int64) []any { return all(impl.ParseComplex(text)) }),
	lineRow("second TEXT", func(d impl.Desk, text string, k []int64) []any {
		y, code := impl.ParseComplex(text)
		return all(outcome{impl.Desk{First: d.First, Second: y}, text}, code)
	}),
	lineRow("named NAME P", func(d impl.Desk, text string, k []int64) []any {
		a, code := impl.NamedDga(text, k[0])
		if code != impl.ErrNone {
			return all(a, code)
		}
		return all(impl.FilteredOf(a))
	}),
	lineRow("sphere P N", func(d impl.Desk, text string, k []int64) []any { return all(impl.SphereComplex(k[0], k[1])) }),
	lineRow("swap", func(d impl.Desk, text string, k []int64) []any {
		swapped := impl.Desk{First: plainFlat(d.Second), Second: d.First.Complex}
		return all(outcome{swapped, plainComplexText(d.Second)}, int64(impl.ErrNone))
	}),
	lineRow("sum", func(d impl.Desk, text string, k []int64) []any {
		return all(impl.AddComplexes(d.First.Complex, d.Second))
	}),
	lineRow("shift K", func(d impl.Desk, text string, k []int64) []any { return all(impl.ShiftComplex(d.First.Complex, k[0])) }),
	lineRow("dual", func(d impl.Desk, text string, k []int64) []any { return all(impl.DualComplex(d.First.Complex)) }),
	lineRow("tensor", func(d impl.Desk, text string, k []int64) []any {
		return all(impl.TensorComplexes(d.First.Complex, d.Second))
	}),
	lineRow("power K", func(d impl.Desk, text string, k []int64) []any { return all(impl.PowerComplex(d.First.Complex, k[0])) }),
	lineRow("cone", func(d impl.Desk, text string, k []int64) []any {
		identity, _ := impl.IdentityMap(d.First.Complex)
		return all(impl.ConeOf(d.First.Complex, d.First.Complex, identity))
	}),
	lineRow("holes", func(d impl.Desk, text string, k []int64) []any { return all(impl.HomologyComplex(d.First.Complex)) }),
	lineRow("lift N I Q", func(d impl.Desk, text string, k []int64) []any { return all(plainLift(d, k[0], k[1], k[2])) }),
	lineRow("part Q", func(d impl.Desk, text string, k []int64) []any { return all(impl.PartOf(d.First, k[0])) }),
	lineRow("reset", func(d impl.Desk, text string, k []int64) []any {
		return all(outcome{impl.NewDesk(), "ok"}, int64(impl.ErrNone))
	}),
}

// telling are the rows that change nothing.
var telling = []rowOfLines{
	lineRow("show", func(d impl.Desk, text string, k []int64) []any { return all(impl.ComplexText(d.First.Complex)) }),
	lineRow("other", func(d impl.Desk, text string, k []int64) []any { return all(impl.ComplexText(d.Second)) }),
	lineRow("levels", func(d impl.Desk, text string, k []int64) []any { return all(d.First.Levels, int64(impl.ErrNone)) }),
	lineRow("homology", func(d impl.Desk, text string, k []int64) []any { return all(impl.HomologyNumbers(d.First.Complex)) }),
	lineRow("euler", func(d impl.Desk, text string, k []int64) []any { return all(impl.EulerNumber(d.First.Complex)) }),
	lineRow("page R", func(d impl.Desk, text string, k []int64) []any { return all(impl.PageTable(d.First, k[0])) }),
	lineRow("number R N Q", func(d impl.Desk, text string, k []int64) []any {
		return all(impl.PageNumber(d.First, k[0], k[1], k[2]))
	}),
	lineRow("rank R N Q", func(d impl.Desk, text string, k []int64) []any {
		return all(impl.DifferentialRank(d.First, k[0], k[1], k[2]))
	}),
	lineRow("limit N Q", func(d impl.Desk, text string, k []int64) []any { return all(impl.LimitNumber(d.First, k[0], k[1])) }),
	lineRow("last", func(d impl.Desk, text string, k []int64) []any { return all(impl.LastPage(d.First)) }),
	lineRow("free N", func(d impl.Desk, text string, k []int64) []any {
		places, code := impl.FreePlaces(d.First.Complex, k[0])
		if len(places) == 0 {
			return all("none", code)
		}
		return all(places, code)
	}),
}

// lineRows returns the rows of the list.
func lineRows() []rowOfLines { return slices.Concat(changing, telling) }

// plainFlat returns a complex with the level 0 for all basis vectors.
func plainFlat(x impl.Complex) impl.Filtered {
	flat := impl.Filtered{Complex: x}
	for _, dim := range x.Dims {
		flat.Levels = append(flat.Levels, make([]int64, dim))
	}
	return flat
}

// plainComplexText returns the text of a complex.
func plainComplexText(x impl.Complex) string {
	dims, maps := plainList(x.Dims, ","), []string{}
	for _, table := range x.Maps {
		var list []string
		for _, row := range table {
			list = append(list, "-")
			if len(row) > 0 {
				list[len(list)-1] = plainList(row, "")
			}
		}
		if len(list) == 0 {
			list = []string{"-"}
		}
		maps = append(maps, strings.Join(list, ","))
	}
	return fmt.Sprintf("%d:%s:%s", x.Prime, dims, strings.Join(maps, ";"))
}

// plainList writes out numbers with a separator between them.
func plainList(numbers []int64, separator string) string {
	return strings.ReplaceAll(strings.Trim(fmt.Sprint(numbers), "[]"), " ", separator)
}

// plainTable writes out the rows of a table.
func plainTable(table [][]int64) string {
	text := ""
	for i, row := range table {
		if i > 0 {
			text += ";"
		}
		text += plainList(row, ",")
	}
	return text
}

// plainLift returns the desk with another level of one basis vector, and the table of levels, or any code if
// there is no such vector, or the level cannot be.
func plainLift(d impl.Desk, n int64, i int64, q int64) (outcome, int64) {
	if n >= int64(len(d.First.Levels)) || i >= int64(len(d.First.Levels[n])) {
		return outcome{}, impl.ErrNotFound
	}
	d.First.Levels = slices.Clone(d.First.Levels)
	d.First.Levels[n] = slices.Clone(d.First.Levels[n])
	d.First.Levels[n][i] = q
	if !impl.IsFiltered(d.First) {
		return outcome{}, impl.ErrInvalid
	}
	return outcome{d, plainTable(d.First.Levels)}, impl.ErrNone
}

// plainLine executes a line on a desk.
func plainLine(d impl.Desk, line string) outcome {
	for _, row := range lineRows() {
		if found := row.form.FindStringSubmatch(line); found != nil {
			return plainRow(d, row, found[1:])
		}
	}
	return outcome{d, "error"}
}

// plainRow does what a row tells, with the words behind the command.
func plainRow(d impl.Desk, row rowOfLines, words []string) outcome {
	text, k := "", []int64{}
	for i, word := range words {
		if i == 0 && (strings.Contains(row.line, "TEXT") || strings.Contains(row.line, "NAME")) {
			text = word
			continue
		}
		number, err := strconv.Atoi(word)
		if err != nil {
			panic(err)
		}
		k = append(k, int64(number))
	}
	results := row.done(d, text, k)
	if results[1] != int64(impl.ErrNone) {
		return outcome{d, "error"}
	}
	switch result := results[0].(type) {
	case outcome:
		return result
	case impl.Complex:
		return outcome{impl.Desk{First: plainFlat(result), Second: d.Second}, plainComplexText(result)}
	case impl.Filtered:
		return outcome{impl.Desk{First: result, Second: d.Second}, plainComplexText(result.Complex)}
	case [][]int64:
		return outcome{d, plainTable(result)}
	case []int64:
		return outcome{d, plainList(result, " ")}
	}
	return outcome{d, fmt.Sprint(results[0])}
}

// expectOutcome checks a line on a desk: that it is executed as told, leads to a desk, and changes no
// argument.
func expectOutcome(t *testing.T, d impl.Desk, line string, want outcome) {
	t.Helper()
	before := fmt.Sprint(d)
	after, output := impl.RunLine(d, line)
	if output != want.output || fmt.Sprint(after) != fmt.Sprint(want.desk) {
		t.Errorf("%q on %s leads to %v with %q, want %v with %q", line, before, after, output, want.desk, want.output)
	}
	if !impl.IsDesk(after) {
		t.Errorf("%q on %s leads to no desk", line, before)
	}
	if fmt.Sprint(d) != before {
		t.Errorf("%q changes the desk %s", line, before)
	}
}

// expectErrors checks that lines on a desk have the output error, and change nothing.
func expectErrors(t *testing.T, d impl.Desk, lines ...string) {
	t.Helper()
	for _, line := range lines {
		expectOutcome(t, d, line, outcome{d, "error"})
	}
}

// deskOf returns the desk of a flat complex and a second complex, by their texts.
func deskOf(t *testing.T, first string, second string) impl.Desk {
	t.Helper()
	return impl.Desk{First: plainFlat(parsed(t, first)), Second: parsed(t, second)}
}

// edgeTexts are the texts of complexes of the top 0, of the dimension 0, without rows, of the greatest top
// and dimensions, and of few basis vectors.
var edgeTexts = []string{
	"2:0:", "3:1:", "5:8:", "7:2:", "2:0,0:-", "3:0,1:-", "5:1,0:-", "7:0,0,0,0,0,0:-;-;-;-;-", "2:2,0,1:-;-", "3:0,3,0:-,-,-;-", "5:0,0,2:-;-,-",
	"3:0,0,0,0,0,1:-;-;-;-;-", "2:1,1:1", "3:1,1:2", "5:1,1:0", "7:1,2:3,0", "2:2,1:11", "3:1,2,1:1,2;11", "5:1,1,1:4;0", "2:1,1,1,1,1,1:1;0;1;0;1",
	"2:8,8:10000000,01000000,00100000,00010000,00001000,00000100,00000010,00000001", "3:8,0,8:-;-,-,-,-,-,-,-,-", "7:4,4:1000,0200,0030,0004",
}

// desks lists desks of all primes and tops: with the edges, with X of known pieces, and with X of few vectors
// and any levels. Most have the same prime twice, and second complexes of few basis vectors.
func desks(t *testing.T, each int) []impl.Desk {
	t.Helper()
	g := &numbers{state: 211}
	list := []impl.Desk{impl.NewDesk()}
	var firsts []impl.Filtered
	for _, text := range edgeTexts {
		firsts = append(firsts, plainFlat(parsed(t, text)))
	}
	for _, k := range knownFiltereds(each) {
		firsts = append(firsts, k.Filtered)
	}
	firsts = append(firsts, smallFiltereds(each)...)
	for _, x := range firsts {
		list = append(list, impl.Desk{First: x, Second: anySecond(g, x.Complex.Prime)})
	}
	return list
}

// anySecond returns a second complex, mostly with the prime p and of few basis vectors.
func anySecond(g *numbers, p int64) impl.Complex {
	if g.below(6) == 0 {
		p = usualPrimes[g.below(4)]
	}
	switch g.below(4) {
	case 0:
		return flatOf(p, g.row(3, 1+g.below(3))...)
	case 1:
		return knownWith(g, p, g.below(3), 2, 2).Complex
	case 2:
		return knownComplex(g, p, g.below(impl.MaxTop+1)).Complex
	}
	return randomFiltered(g, p, []int64{1 + g.below(2), g.below(3), g.below(2)}).Complex
}

// linesAt lists lines of a row for a desk: each word as a number in its range, at its ends, or beyond.
func linesAt(g *numbers, d impl.Desk, row rowOfLines) []string {
	lines := []string{row.word()}
	for _, word := range strings.Split(row.line, " ")[1:] {
		var longer []string
		for _, line := range lines {
			for _, choice := range choicesOf(g, d, word) {
				longer = append(longer, line+" "+choice)
			}
		}
		lines = longer
	}
	return lines
}

// choicesOf lists what may stand for a word of the list of lines.
func choicesOf(g *numbers, d impl.Desk, word string) []string {
	greatest := map[string]int64{"I": impl.MaxDim, "K": impl.MaxTop + 1, "N": int64(len(d.First.Levels)), "P": 8, "Q": impl.MaxLevel + 1, "R": impl.MaxPage + 1}
	var choices []string
	switch word {
	case "TEXT":
		choices = append(slices.Clone(edgeTexts), "", "x", "3:1", plainComplexText(anySecond(g, 2)), plainComplexText(d.First.Complex), plainComplexText(d.Second))
	case "NAME":
		choices = []string{"point", "circle", "torus", "disc", "", "Disc", "sphere"}
	default:
		for number := range greatest[word] + 1 {
			choices = append(choices, strconv.FormatInt(number, 10))
		}
		choices = append(choices, "999999999")
	}
	return choices
}
