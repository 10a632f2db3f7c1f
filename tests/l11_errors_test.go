package tests

import (
	"fmt"
	"slices"
	"strings"
	"testing"

	"loop.example/g01273/impl"
)

// changedDesk returns a desk that differs from the new one in both parts and in the levels.
func changedDesk(t *testing.T) impl.Desk {
	t.Helper()
	return impl.Desk{First: leveled(t, "3:2,3,1:12,00,21;101", []int64{1, 0}, []int64{1, 3, 2}, []int64{4}), Second: parsed(t, "3:1,1:0")}
}

// goodLines has for each row a line that is executed on the changed desk.
func goodLines() []string {
	return []string{
		"first 2:1,1:1", "second 5:1:", "named disc 5", "sphere 2 1", "swap", "sum", "shift 1", "dual", "tensor", "power 1", "cone", "holes", "lift 1 1 4", "part 2", "reset",
		"show", "other", "levels", "homology", "euler", "page 1", "number 1 1 3", "rank 1 1 1", "limit 1 2", "last", "free 1",
	}
}

func TestGoodLinesAreExecuted(t *testing.T) {
	list := lineRows()
	for i, line := range goodLines() {
		if line != list[i].word() && !strings.HasPrefix(line, list[i].word()+" ") {
			t.Fatalf("%q is no line of %q", line, list[i].line)
		}
		want := plainLine(changedDesk(t), line)
		if want.output == "error" {
			t.Errorf("%q is not executed", line)
		}
		expectOutcome(t, changedDesk(t), line, want)
	}
}

func TestWhatIsNoCommand(t *testing.T) {
	d := changedDesk(t)
	expectErrors(t, d,
		"", " ", "  ", "\t", "\n", "\x00", "error", "ok", "none", "fly", "help", "quit", "0", "1", "1 1", "2:1:", "3:2,2:01,00", "torus", "C", "X", "Y", "TEXT", "page1", "number1 1 1", "showshow", "show;other", "show,other", "first2:1:", "first:2:1:",
		"point", "circle", "disc", "named", "all", "new", "NewDesk", "third 2:1:", "zeroth 2:1:", "product", "bars", "diff", "add", "minus", "part0", "pages 1", "page-1", "level", "hole", "numbers 1 1 1", "ranks 1 1 1", "limits 1 1", "lasts", "frees 1", "spheres 2 1",
		"\xff", "\xffshow", "show\xff", "ｓｈｏｗ", "show\x00", "show\r", "show\n", "\nshow", "show\nother", "show\tother", "sh ow", "#", "# show", "//show", "\"show\"", "'show'", "show.", "-show", strings.Repeat("show", 1000), strings.Repeat(" ", 100000), strings.Repeat("x", 100000))
	for _, line := range goodLines() {
		word, rest, _ := strings.Cut(line, " ")
		for _, other := range []string{strings.ToUpper(word), strings.ToUpper(word[:1]) + word[1:], word[:len(word)-1] + strings.ToUpper(word[len(word)-1:]), word[1:], word[:len(word)-1], word + "s", "s" + word, word + word, word + "\n", "\t" + word, word + "\t", word + "\x00", "-" + word, word + ":"} {
			expectErrors(t, d, other, strings.TrimSuffix(other+" "+rest, " "))
		}
	}
}

// TestWordsMissingAndTooMany has a word missing, one too many, and empty ones too many, at each place.
func TestWordsMissingAndTooMany(t *testing.T) {
	d := changedDesk(t)
	for _, line := range goodLines() {
		words := strings.Split(line, " ")
		for i := range words {
			if len(words) > 1 {
				expectErrors(t, d, strings.Join(slices.Delete(slices.Clone(words), i, i+1), " "))
				if i > 0 {
					expectErrors(t, d, strings.Join(words[:i], " "))
				}
				emptied := slices.Clone(words)
				emptied[i] = ""
				expectErrors(t, d, strings.Join(emptied, " "))
			}
		}
		for i := range len(words) + 1 {
			for _, more := range []string{"", " ", "0", "1", "x", "show", "3:1:", "torus"} {
				expectErrors(t, d, strings.Join(slices.Insert(slices.Clone(words), i, more), " "))
			}
		}
		for _, other := range []string{line + " ", " " + line, line + "  ", line + " 0", line + " 1 1", line + " " + line, line + "\n", line + "\t", line + " \n", "\n" + line, line + "\r", line + "\x00", line + ";show", line + "\nshow", strings.ReplaceAll(line, " ", "\t"), strings.ReplaceAll(line, " ", "\u00a0"), strings.ReplaceAll(line, " ", ",")} {
			if other != line {
				expectErrors(t, d, other)
			}
		}
	}
	for _, blanks := range []string{"show ", " show", "show  ", "  show", "levels ", "last ", "reset ", "swap ", "first ", "second ", "first", "second", "first  2:1:", "first 2:1: ", "second  2:1:", "second 2:1: ", "first 2:1,1: 1", "first 2 : 1 :", "first 2:1, 1:0", "first 2:1: 2:1:", "first 2:1:2:1:"} {
		expectErrors(t, d, blanks)
	}
}

// TestWhatIsNoNumber puts what is no number in the place of each number.
func TestWhatIsNoNumber(t *testing.T) {
	wrong := []string{
		"", "-", "+", "-0", "+0", "-1", "+1", "+2", "-2", "--1", "00", "01", "02", "03", "05", "000", "001", "0000000001", "000000001", "0000000000", "00000000", "1000000000", "1000000001", "1234567890", "9999999999", "4294967296", "4294967297", "4294967298", "4294967299", "8589934594",
		"9223372036854775807", "9223372036854775808", "18446744073709551616", "18446744073709551617", "18446744073709551618", "18446744073709551621", "340282366920938463463374607431768211457", strings.Repeat("1", 1000), strings.Repeat("0", 1000) + "1",
		"a", "N", "x1", "1x", "0x1", "0b1", "0o1", "1.0", "1.", ".1", "1e0", "1_0", "_1", "1_", "1,", ",1", "1;", "1:", "1-", "1+", "1\t", "\t1", "1\n", "\n1", "1\r", "1\x00", "１", "١", "¹", "½", "Ⅰ", "one", "nil", "inf", "NaN", "true", "1/1", "(1)", "'1'", "\"1\"", "\xff", "1\xff",
	}
	d := changedDesk(t)
	list, places := lineRows(), 0
	for i, line := range goodLines() {
		words, names := strings.Split(line, " "), strings.Split(list[i].line, " ")
		for at := 1; at < len(words); at++ {
			if names[at] == "TEXT" || names[at] == "NAME" {
				continue
			}
			places++
			for _, word := range wrong {
				other := slices.Clone(words)
				other[at] = word
				expectErrors(t, d, strings.Join(other, " "))
			}
			for _, word := range []string{words[at], "999999999", "100000000", "123456789"} { // these are numbers, most of them too great
				other := slices.Clone(words)
				other[at] = word
				expectOutcome(t, d, strings.Join(other, " "), plainLine(d, strings.Join(other, " ")))
			}
		}
	}
	if places != 19 {
		t.Errorf("%d places of numbers", places)
	}
}

// TestLinesAroundGoodOnes has lines that arise from those that are executed by a change of one letter.
func TestLinesAroundGoodOnes(t *testing.T) {
	d, executed := changedDesk(t), 0
	for _, line := range goodLines() {
		for _, other := range textsAround(line+"|", " ", "0", "1", "2", "9", "-", ":", ",", "x", "\n", "\t") {
			other = strings.TrimSuffix(other, "|")
			want := plainLine(d, other)
			expectOutcome(t, d, other, want)
			if want.output != "error" {
				executed++
			}
		}
	}
	if executed < 100 {
		t.Errorf("%d lines are executed", executed)
	}
}

// TestErrorsOfTheFunctions has each error of each function that a line calls, and what is just no error.
func TestErrorsOfTheFunctions(t *testing.T) {
	d := changedDesk(t)
	for _, text := range []string{"", "x", "2", "2:", "2:1", ":1:", "4:1:", "0:1:", "1:1:", "9:1:", "11:1:", "2:9:", "2:1:-", "2:1:0", "2:1,1:", "2:1,1:2", "2:1,1:-", "2:1,1:1;1", "2:1,1,1:1;1", "2:0,0:", "2:0,0,0,0,0,0,0:-;-;-;-;-;-", "02:1:", "+2:1:", "2:01:", "2:1,1:01", "2:-1:", "2:1,1:1\n", "3:1,1:3", "7:1,1:8"} {
		expectErrors(t, d, "first "+text, "second "+text)
	}
	for _, p := range []int64{0, 1, 4, 6, 8, 9, 10, 11, 13, 258, 999999999} {
		expectErrors(t, d, fmt.Sprint("sphere ", p, " 1"))
		for _, name := range []string{"point", "circle", "torus", "disc", "none"} {
			expectErrors(t, d, fmt.Sprintf("named %s %d", name, p))
		}
	}
	for _, name := range []string{"", "Torus", "TORUS", "toru", "torus1", "orus", "points", "poin", "circ", "disk", "discs", "unit", "sphere", "none", "0", "3", "NAME", "torus\n", "\ttorus", "torus,", "tórus", "\xff", strings.Repeat("torus", 100)} {
		for _, p := range usualPrimes {
			expectErrors(t, d, fmt.Sprintf("named %s %d", name, p))
		}
	}
	for _, p := range usualPrimes {
		expectErrors(t, d, fmt.Sprint("sphere ", p, " 6"), fmt.Sprint("sphere ", p, " 7"), fmt.Sprint("sphere ", p, " 999999999"))
		expectScript(t, d, fmt.Sprintf("sphere %d 5 -> %d:0,0,0,0,0,1:-;-;-;-;-", p, p), fmt.Sprintf("named point %d -> %d:1:", p, p))
	}
	expectErrors(t, d, "part 6", "part 7", "page 9", "page 10", "number 9 0 0", "number 0 3 0", "number 0 0 6", "rank 9 0 0", "rank 0 3 0", "rank 0 0 6", "limit 3 0", "limit 0 6", "free 3", "free 4", "lift 3 0 0", "lift 0 2 0", "lift 1 3 5", "lift 2 1 4", "lift 0 0 6", "lift 2 0 0", "lift 1 2 0")
	expectScript(t, d, "page 8 -> 1,0,0,0,0,0;0,0,0,1,0,0;0,0,0,0,0,0", "number 8 2 5 -> 0", "rank 8 2 5 -> 0", "limit 2 5 -> 0", "free 2 -> 0", "part 5 -> 3:2,3,1:12,00,21;101", "lift 2 0 5 -> 1,0;1,3,2;5")
}

// TestErrorsOfPrimesAndLimits has primes that are different, and results with too many degrees or basis
// vectors, and with just as many as there may be.
func TestErrorsOfPrimesAndLimits(t *testing.T) {
	for _, p := range usualPrimes {
		for _, q := range usualPrimes {
			d := deskOf(t, fmt.Sprintf("%d:1,1:1", p), fmt.Sprintf("%d:1:", q))
			if p != q {
				expectErrors(t, d, "sum", "tensor")
			} else {
				expectScript(t, d, fmt.Sprintf("sum -> %d:2,1:10", p))
				expectScript(t, d, fmt.Sprintf("tensor -> %d:1,1:1", p))
			}
			expectScript(t, d, fmt.Sprintf("swap -> %d:1:", q), fmt.Sprintf("other -> %d:1,1:1", p), fmt.Sprintf("swap -> %d:1,1:1", p))
		}
	}
	for _, one := range []struct{ first, second, line, want string }{
		{"2:4:", "2:4:", "sum", "2:8:"}, {"2:4:", "2:5:", "sum", "error"}, {"2:8:", "2:0:", "sum", "2:8:"}, {"2:8:", "2:1:", "sum", "error"}, {"2:0,1:-", "2:0,8:-,-,-,-,-,-,-,-", "sum", "error"}, {"2:8:", "2:0,1:-", "sum", "2:8,1:00000000"},
		{"5:2:", "5:4:", "tensor", "5:8:"}, {"5:3:", "5:3:", "tensor", "error"}, {"5:8:", "5:1:", "tensor", "5:8:"}, {"5:8:", "5:2:", "tensor", "error"}, {"5:8:", "5:0:", "tensor", "5:0:"},
		{"5:0,0,0:-;-", "5:0,0,0,0:-;-;-", "tensor", "5:0,0,0,0,0,0:-;-;-;-;-"}, {"5:0,0,0,0:-;-;-", "5:0,0,0,0:-;-;-", "tensor", "error"}, {"5:0,0,0,0,0,0:-;-;-;-;-", "5:0,0:-", "tensor", "error"},
		{"3:1,1:0", "3:1:", "shift 4", "3:0,0,0,0,1,1:-;-;-;-;0"}, {"3:1,1:0", "3:1:", "shift 5", "error"}, {"3:1,1:0", "3:1:", "shift 6", "error"}, {"3:1:", "3:1:", "shift 5", "3:0,0,0,0,0,1:-;-;-;-;-"}, {"3:1:", "3:1:", "shift 6", "error"},
		{"3:0,0,0,0,0,0:-;-;-;-;-", "3:1:", "shift 0", "3:0,0,0,0,0,0:-;-;-;-;-"}, {"3:0,0,0,0,0,0:-;-;-;-;-", "3:1:", "shift 1", "error"},
		{"7:1:", "7:1:", "power 4", "7:1:"}, {"7:1:", "7:1:", "power 5", "error"}, {"7:2:", "7:1:", "power 3", "7:8:"}, {"7:2:", "7:1:", "power 4", "error"}, {"7:8:", "7:1:", "power 1", "7:8:"}, {"7:8:", "7:1:", "power 2", "error"}, {"7:8:", "7:1:", "power 0", "7:1:"},
		{"7:0,0:-", "7:1:", "power 4", "7:0,0,0,0,0:-;-;-;-"}, {"7:0,0:-", "7:1:", "power 5", "error"}, {"7:0,0,0:-;-", "7:1:", "power 2", "7:0,0,0,0,0:-;-;-;-"}, {"7:0,0,0:-;-", "7:1:", "power 3", "error"},
		{"2:8:", "2:1:", "cone", "2:8,8:10000000,01000000,00100000,00010000,00001000,00000100,00000010,00000001"}, {"2:4,4:0000,0000,0000,0000", "2:1:", "cone", "2:4,8,4:0000,0000,0000,0000,1000,0100,0010,0001;10000000,01000000,00100000,00010000"},
		{"2:5,4:00000,00000,00000,00000", "2:1:", "cone", "error"}, {"2:0,0,0,0,0:-;-;-;-", "2:1:", "cone", "2:0,0,0,0,0,0:-;-;-;-;-"}, {"2:0,0,0,0,0,0:-;-;-;-;-", "2:1:", "cone", "error"}, {"5:1,1:2", "5:1:", "cone", "5:1,2,1:2,1;13"},
	} {
		d := deskOf(t, one.first, one.second)
		expectScript(t, d, one.line+" -> "+one.want)
		expectOutcome(t, d, one.line, plainLine(d, one.line))
	}
}

// TestWhatIsNoDesk has desks that are none in the first part, in the second, and in both.
func TestWhatIsNoDesk(t *testing.T) {
	good := changedDesk(t)
	wrong := []impl.Desk{{}, {First: good.First}, {Second: good.Second}}
	for i, x := range noFiltereds() {
		bad := noComplexes()
		wrong = append(wrong, impl.Desk{First: x, Second: good.Second}, impl.Desk{First: x, Second: bad[i%len(bad)]})
	}
	for _, y := range noComplexes() {
		wrong = append(wrong, impl.Desk{First: good.First, Second: y})
	}
	lines := append(goodLines(), "", " ", "fly", "SHOW", "show ", "power 9", "first x", "lift 0 9 0")
	for _, d := range wrong {
		if impl.IsDesk(d) {
			t.Errorf("IsDesk(%v) = true", d)
		}
		for _, line := range lines {
			if after, output := impl.RunLine(d, line); output != "" || fmt.Sprint(after) != fmt.Sprint(impl.Desk{}) {
				t.Errorf("%q on %v leads to %v with %q", line, d, after, output)
			}
		}
	}
	for _, d := range append(desks(t, 1), good) {
		if !impl.IsDesk(d) {
			t.Errorf("IsDesk(%v) = false", d)
		}
	}
}

// TestLinesArePure has desks with spare capacity, and such whose parts share memory.
func TestLinesArePure(t *testing.T) {
	g := &numbers{state: 215}
	expectPure := func(d impl.Desk, line string) {
		checkPure(t, fmt.Sprintf("%q on %v", line, d), all(d), func() []any { return all(impl.RunLine(d, line)) })
	}
	for _, d := range desks(t, 1) {
		shared := impl.Desk{First: d.First, Second: d.First.Complex}
		for _, row := range lineRows() {
			lines := linesAt(g, d, row)
			line := lines[g.below(int64(len(lines)))]
			expectPure(withSpare(d), line)
			expectPure(withSpare(d), line+" ")
			expectPure(shared, line)
		}
		checkPure(t, "IsDesk", all(shared), func() []any { return all(impl.IsDesk(shared)) })
	}
	rowOf, table := []int64{0, 0}, [][]int64{{0, 0}, {0, 0}}
	same := complexOf(3, []int64{2, 2, 2}, table, table)
	same.Maps[0][1] = same.Maps[0][0]
	one := impl.Desk{First: withLevels(same, rowOf, rowOf, rowOf), Second: same}
	if !impl.IsDesk(one) {
		t.Fatal("a desk whose slices are the same is none")
	}
	for _, line := range append(goodLines(), "lift 0 0 0", "lift 1 1 5", "fly", "part 0", "part 5") {
		expectPure(one, line)
		expectOutcome(t, one, line, plainLine(one, line))
	}
	bad := withSpare(impl.Desk{First: one.First, Second: complexOf(4, []int64{1})})
	expectPure(bad, "show")
}
