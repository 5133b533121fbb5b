package script_test

import (
	"fmt"
	"math"
	"slices"
	"strconv"
	"strings"
	"sync"
	"testing"

	"kelpforest/api"
	"kelpforest/script"
	"kelpforest/val"
)

const (
	boundText = "kelpforest: bound"
	textText  = "kelpforest: text"
	noneText  = "kelpforest: none"
	argsText  = "kelpforest: args"
	kindText  = "kelpforest: kind"
	existText = "kelpforest: exist"
	deepText  = "kelpforest: deep"
	fullText  = "kelpforest: full"
)

// pair of a line and its answer.
type pair struct{ line, answer string }

// lines that are taken for granted: of each the answer is ok.
func lines(l ...string) []pair {
	var p []pair
	for _, s := range l {
		p = append(p, pair{s, "ok"})
	}
	return p
}

// answers: that a script's lines are answered so.
func answers(t *testing.T, l []pair) {
	t.Helper()
	var in []string
	for _, p := range l {
		in = append(in, p.line)
	}
	got, err := script.Run(in)
	if err != nil || len(got) != len(l) {
		t.Fatalf("%d answers of %d lines, %v", len(got), len(l), err)
	}
	for i, p := range l {
		if got[i] != p.answer {
			t.Errorf("%d, %q: %q, not %q", i, p.line, got[i], p.answer)
		}
	}
}

// each of these lines, by itself, behind others.
func each(t *testing.T, ahead []string, l []pair) {
	t.Helper()
	for _, p := range l {
		answers(t, append(lines(ahead...), p))
	}
}

// alike: run and mach of these words, at both levels, which leaves level 1.
func alike(words, answer string) []pair {
	return []pair{{"run " + words, answer}, {"level 0", "ok"}, {"mach " + words, answer}, {"level 1", "ok"}, {"mach " + words, answer}}
}

// P160: a script of no lines has no answers.
func TestNoLines(t *testing.T) {
	for _, l := range [][]string{nil, {}} {
		if a, err := script.Run(l); len(a) != 0 || err != nil {
			t.Error(a, err)
		}
	}
}

// P160: as many lines as there may be, and more.
func TestMaxLines(t *testing.T) {
	for _, line := range []string{"show", "ticks 1", "what"} {
		for _, count := range []int{1, api.MaxLines - 1, api.MaxLines} {
			if a, err := script.Run(slices.Repeat([]string{line}, count)); len(a) != count || err != nil {
				t.Errorf("%d times %q: %d answers, %v", count, line, len(a), err)
			}
		}
		for _, count := range []int{api.MaxLines + 1, 100, 5000} {
			if a, err := script.Run(slices.Repeat([]string{line}, count)); len(a) != 0 || err != api.ErrBound {
				t.Errorf("%d times %q: %d answers, %v", count, line, len(a), err)
			}
		}
	}
}

// P160: what there is ahead of all lines: no program, level 1, and a thousand ticks.
func TestAtFirst(t *testing.T) {
	each(t, nil, []pair{{"show", ""}, {"run main", noneText}, {"mach main 1", noneText}, {"vars main", noneText}})
	loop := "add fn main(a) { while a { a = a - 1; } }"
	each(t, []string{loop}, alike("main 997", "done 0 999"))
	each(t, []string{loop}, alike("main 998", "done 0 1000"))
	each(t, []string{loop}, alike("main 999", "tired 0 1000"))
}

// P160: a line is one line of the program, whatever stands in it.
func TestAdd(t *testing.T) {
	each(t, nil, []pair{{"add a", "ok"}, {"add ", "ok"}, {"add  ", "ok"}, {"add @ @", "ok"}, {"add add", "ok"}, {"add \n", "ok"}, {"add " + strings.Repeat("a", 9999), "ok"}})
	shown := pair{"show", "fn main(a) {;;\treturn a;;;};;"}
	for _, l := range [][]string{
		{"add fn main(a) { return a; }"},
		{"add  fn  main ( a )\t{ return a ; } "},
		{"add fn", "add main", "add (a", "add ) { return", "add a;", "add }"},
		{"add ", "add fn main(a) {", "add  ", "add return a; }", "add "},
		{"add fn main(a) {\nreturn a;\n\n}"},
	} {
		answers(t, append(lines(l...), shown))
	}
	// A line end stands between, so that no word goes on in the next line.
	answers(t, append(lines("add fn ma", "add in(a) { return a; }"), pair{"show", textText}))
	answers(t, append(lines("add fn main(a) { return a <", "add = 3; }"), pair{"show", textText}))
}

// P160: also behind the last line stands a line end, that is a byte of the text.
func TestMaxText(t *testing.T) {
	head := "add fn main(a) { return a; }"
	for _, l := range [][]string{{head}, {head, "add ", "add "}, {"add ", head, "add  "}} {
		size := 0
		for _, s := range l {
			size += len(s) - len("add ") + 1
		}
		fill := "add " + strings.Repeat(" ", api.MaxText-size-1)
		full := append(lines(l...), pair{fill, "ok"}, pair{"show", "fn main(a) {;;\treturn a;;;};;"}, pair{"run main 4", "done 4 1"}, pair{"mach main 4", "done 4 1"}, pair{"vars main", "a"})
		answers(t, full)
		over := append(full, pair{"add ", "ok"}, pair{"show", boundText}, pair{"run main 4", boundText}, pair{"mach main 4", boundText}, pair{"vars main", boundText}, pair{"clear", "ok"}, pair{"show", ""})
		answers(t, over)
	}
}

// P160: clear takes the program away, and nothing else.
func TestClear(t *testing.T) {
	answers(t, []pair{
		{"clear", "ok"}, {"show", ""}, {"add fn f() { }", "ok"}, {"clear", "ok"}, {"show", ""}, {"run f", noneText}, {"mach f", noneText}, {"vars f", noneText},
		{"add @", "ok"}, {"show", textText}, {"clear", "ok"}, {"add fn f(x) { }", "ok"}, {"show", "fn f(x) {;;};;"}, {"ticks 0", "ok"}, {"clear", "ok"}, {"clear", "ok"},
		{"add fn g() { }", "ok"}, {"run g", "tired 0 0"}, {"mach g", "tired 0 0"},
	})
}

// P160, P161: numbers that may be, that may not be, and what is none.
func TestLevelAndTicks(t *testing.T) {
	each(t, nil, []pair{
		{"level 0", "ok"}, {"level 1", "ok"}, {"level 2", boundText}, {"level -1", boundText}, {"level 999999999999999999", boundText}, {"level -999999999999999999", boundText},
		{"ticks 0", "ok"}, {"ticks 1", "ok"}, {"ticks 4999", "ok"}, {"ticks 5000", "ok"}, {"ticks 5001", boundText}, {"ticks -1", boundText}, {"ticks 999999999999999999", boundText}, {"ticks -999999999999999999", boundText},
	})
	for _, kind := range []string{"level", "ticks"} {
		for _, n := range []string{"", " ", "  1", " 1 ", " 1 1", " 01", " 00", " -0", " -01", " +1", " 1.0", " 0x1", " 1_0", " 1a", " a", " -", " --1", "1", " 1234567890123456789", " 9999999999999999999999", " -1234567890123456789", " 000000000000000001", "\t1", " 1\n"} {
			each(t, nil, []pair{{kind + n, textText}})
		}
	}
	// What is refused leaves what there was.
	answers(t, []pair{
		{"add fn main(a) { while a { a = a - 1; } }", "ok"}, {"ticks 7", "ok"}, {"ticks 5001", boundText}, {"ticks -1", boundText}, {"ticks x", textText}, {"level 2", boundText}, {"level", textText},
		{"run main 9", "tired 0 7"}, {"mach main 9", "tired 0 7"}, {"ticks 5000", "ok"}, {"run main 4998", "done 0 5000"}, {"run main 4999", "tired 0 5000"}, {"level 0", "ok"}, {"mach main 4999", "tired 0 5000"},
	})
}

// P160, P161: the whole program, parsed, with two signs for each line end.
func TestShow(t *testing.T) {
	answers(t, []pair{
		{"add fn f(a,b){if(a){return(b);}else{while a<b{a=(a+1)*2;}}}", "ok"},
		{"show", "fn f(a, b) {;;\tif a {;;\t\treturn b;;;\t} else {;;\t\twhile a < b {;;\t\t\ta = (a + 1) * 2;;;\t\t};;\t};;};;"},
		{"add fn f() {", "ok"}, {"show", textText}, {"add } fn g(a, a, a) { print x; }", "ok"},
		{"show", "fn f(a, b) {;;\tif a {;;\t\treturn b;;;\t} else {;;\t\twhile a < b {;;\t\t\ta = (a + 1) * 2;;;\t\t};;\t};;};;fn f() {;;};;fn g(a, a, a) {;;\tprint x;;;};;"},
		{"add fn h() { return " + strings.Repeat("!", api.MaxNest) + "1; }", "ok"}, {"show", deepText}, {"clear", "ok"},
		{"add " + strings.Repeat(";", api.MaxTokens+1), "ok"}, {"show", fullText}, {"clear", "ok"},
		{"add " + strings.Repeat("fn f(){}", 9), "ok"}, {"show", strings.Repeat("fn f() {;;};;", 9)},
	})
}

// P160, P161: parameters, then what is named in it, also of what is not well.
func TestVars(t *testing.T) {
	program := []string{"add fn main(b, a) { var s = 0; while s { var t = 1; if t { var u = 2; } else { var v = 3; } } var w = f(); }", "add fn f() { }", "add fn g(x) { y = z; }", "add fn dup(a) { var a = 1; }", "add fn g(other) { }"}
	each(t, program, []pair{
		{"vars main", "b a s t u v w"}, {"vars f", "nothing"}, {"vars g", "x"}, {"vars dup", "a a"},
		{"vars mai", noneText}, {"vars h", noneText}, {"vars a", noneText}, {"vars fn", noneText}, {"vars F", noneText}, {"vars 1", noneText}, {"vars abcdefghijk", noneText},
		{"vars", textText}, {"vars ", textText}, {"vars  f", textText}, {"vars f ", textText}, {"vars f f", textText}, {"vars f 1", textText}, {"varsf", textText},
	})
	each(t, append(program, "add @"), []pair{{"vars main", textText}, {"vars h", textText}})
	each(t, []string{"add fn f() { return " + strings.Repeat("(", 12)}, []pair{{"vars f", deepText}, {"vars g", deepText}})
	each(t, []string{"add " + strings.Repeat("a ", 1001)}, []pair{{"vars f", fullText}})
	each(t, []string{"add " + strings.Repeat("a", 4001)}, []pair{{"vars f", boundText}})
}

// P160: outcomes: how, value, ticks, and what was printed.
func TestOutcomes(t *testing.T) {
	program := []string{
		"add fn main(a) { var s = 0; while a { s = s + a; print s; a = a - 1; } return s; }",
		"add fn down(a) { if a { print a; return down(a - 1); } return 0 - 7; }",
		"add fn many(a) { while a { print a; a = a - 1; } return 9; }",
		"add fn four(a, b, c, d) { print a; print b; print c; return d; }",
		"add fn zero() { }",
	}
	count := func(least int) string {
		var l []string
		for n := 1001; n >= least; n-- {
			l = append(l, strconv.Itoa(n))
		}
		return strings.Join(l, " ")
	}
	for _, p := range []pair{
		{"main 0", "done 0 2"}, {"main 3", "done 6 5 3 5 6"}, {"down 2", "done -7 3 2 1"}, {"zero", "done 0 1"}, {"many 2", "done 9 4 2 1"},
		{"four 1 -2 0 -999999999999999999", "done -999999999999999999 1 1 -2 0"}, {"four 999999999999999999 0 -1 5", "done 5 1 999999999999999999 0 -1"},
		{"down 39", "done -7 40 39 38 37 36 35 34 33 32 31 30 29 28 27 26 25 24 23 22 21 20 19 18 17 16 15 14 13 12 11 10 9 8 7 6 5 4 3 2 1"},
		{"down 40", "deep 0 41 40 39 38 37 36 35 34 33 32 31 30 29 28 27 26 25 24 23 22 21 20 19 18 17 16 15 14 13 12 11 10 9 8 7 6 5 4 3 2 1"},
	} {
		each(t, program, alike(p.line, p.answer))
	}
	each(t, append(program, "ticks 5000"), alike("many 1001", "loud 0 1002 "+count(2)))
	each(t, append(program, "ticks 1001"), alike("many 1001", "tired 0 1001 "+count(2)))
	each(t, append(program, "ticks 2"), alike("main 3", "tired 0 2 3"))
	each(t, append(program, "ticks 0"), alike("zero", "tired 0 0"))
}

// P160, P161: errors of a call, as the packages have them, told alike in both ways, and lines that are none.
func TestWrongCalls(t *testing.T) {
	program := []string{"add fn main(a) { return a; }", "add fn f() { }"}
	for _, p := range []pair{
		{"main", argsText}, {"main 1 2", argsText}, {"f 1", argsText}, {"f 1 2 3 4 5 6", argsText}, {"g", noneText}, {"g 1", noneText}, {"mai 1", noneText}, {"a", noneText}, {"5", noneText}, {"-5 1", noneText}, {"while", noneText}, {"Main 1", noneText},
		{"main x", textText}, {"main 1 x", textText}, {"main 01", textText}, {"main -0", textText}, {"main 1 ", textText}, {"main  1", textText}, {" main 1", textText}, {"", textText}, {" ", textText}, {"main 1234567890123456789", textText}, {"main -1234567890123456789", textText}, {"main 1,", textText}, {"g +1", textText}, {"main 1\t", textText},
	} {
		each(t, program, alike(p.line, p.answer))
		each(t, append(program, "ticks 0"), alike(p.line, p.answer))
	}
	for _, p := range []pair{
		{"add fn f() { }", existText}, {"add fn g() { return x; }", noneText}, {"add fn g() { return f(1); }", argsText}, {"add fn g(a, b, c, d, e) { }", argsText}, {"add }", textText}, {"add @", textText},
		{"add fn g() { return " + strings.Repeat("(", 12), deepText}, {"add " + strings.Repeat("fn g() { } ", 7), fullText}, {"add " + strings.Repeat("; ", 1000), fullText}, {"add " + strings.Repeat(" ", 4000), boundText},
	} {
		each(t, append(program, p.line), alike("main 1", p.answer))
		each(t, append(program, p.line), alike("zz", p.answer))
		each(t, append(program, p.line), alike("main 0 x", textText))
	}
	each(t, program, []pair{{"run", textText}, {"mach", textText}, {"runmain 1", textText}, {"machf", textText}})
}

// P160, P161: each op with numbers of all sizes.
func TestVal(t *testing.T) {
	numbers := []int{0, 1, -1, 7, -7, 63, 64, 999999999999999999, -999999999999999999}
	for _, op := range val.Ops() {
		for _, a := range numbers {
			var l []pair
			for _, b := range numbers {
				n, _ := val.Do(op, a, b)
				l = append(l, pair{fmt.Sprint("val ", a, " ", op, " ", b), strconv.Itoa(n)})
			}
			answers(t, l)
		}
	}
	each(t, nil, []pair{
		{"val 7 / -2", "-3"}, {"val 7 / 0", "0"}, {"val 7 % 0", "7"}, {"val 1 << 63", strconv.Itoa(math.MinInt)}, {"val -1 >> -1", "-1"}, {"val 1 < 2", "1"},
		{"val 7 ! 2", kindText}, {"val 7 <> 2", kindText}, {"val 7 add 2", kindText}, {"val 7 8 2", kindText}, {"val 7 = 2", kindText}, {"val 7 +- 2", kindText},
		{"val", textText}, {"val ", textText}, {"val 7", textText}, {"val 7 +", textText}, {"val 7 + ", textText}, {"val + 7", textText}, {"val 7 + 2 ", textText}, {"val 7 + 2 3", textText}, {"val 7 + 2 + 3", textText}, {"val 7+2", textText}, {"val 7  2", textText}, {"val  + 2", textText},
		{"val x + 2", textText}, {"val 2 + x", textText}, {"val 2 ! x", textText}, {"val 07 + 2", textText}, {"val -0 + 2", textText}, {"val 2 + -0", textText}, {"val 2 + +2", textText}, {"val 1234567890123456789 + 1", textText}, {"val 1 + -1234567890123456789", textText}, {"val 1 + 00", textText}, {"val - - -", textText},
	})
}

// P161: lines that are none, also what begins as one, or is one but for its blanks or its great letters.
func TestNoCommands(t *testing.T) {
	for _, ahead := range [][]string{nil, {"add fn main() { }"}, {"add @", "level 0", "ticks 3"}} {
		for _, line := range []string{"", " ", "  ", "\n", "what", "add", "Add x", "ADD", "addx", "add\tx", " add x", "clear ", " clear", "clear 1", "clears", "show ", " show", "show 1", "show show", "shows", "Show", "level", "ticks", "ok", "fn main() { }", "1", "-", "set a 1", "quit", "run\tmain", "\x00", "\xff\xfe", "é"} {
			each(t, ahead, []pair{{line, textText}})
		}
	}
	// They leave nothing behind.
	answers(t, []pair{{"add", textText}, {"show", ""}, {"add fn f() { }", "ok"}, {"clear ", textText}, {"clear now", textText}, {"show", "fn f() {;;};;"}})
}

// P4: lines are only read, those behind the list's end not even that, and answers are new memory.
func TestMemory(t *testing.T) {
	l := []string{"add fn f(x) { print x; }", "run f 1", "what", "show"}
	kept := slices.Clone(l)
	before, _ := script.Run(l)
	first := slices.Clone(before)
	for i := range before {
		before[i] = "written over"
	}
	after, err := script.Run(l)
	if err != nil || !slices.Equal(after, first) || !slices.Equal(l, kept) {
		t.Error(after, first, l, err)
	}
	long := slices.Repeat([]string{"ticks 1"}, 200)
	if a, err := script.Run(long[:2]); len(a) != 2 || err != nil || !slices.Equal(long, slices.Repeat([]string{"ticks 1"}, 200)) {
		t.Error(a, err)
	}
}

// P2, P162: nothing is kept from one script to another, also where they work side by side.
func TestApart(t *testing.T) {
	one := []string{"run f 2", "add fn f(x) { print x; return x * x; }", "level 0", "ticks 1", "run f 2", "mach f 3", "show"}
	two := []string{"show", "vars f", "add fn f() { while 1 { } }", "mach f", "run f", "vars f"}
	wantOne, _ := script.Run(one)
	wantTwo, _ := script.Run(two)
	if wantOne[0] != noneText || wantOne[4] != "done 4 1 2" || wantTwo[0] != "" || wantTwo[3] != "tired 0 1000" {
		t.Fatal(wantOne, wantTwo)
	}
	var group sync.WaitGroup
	for range 8 {
		group.Go(func() {
			for range 20 {
				a, _ := script.Run(one)
				b, _ := script.Run(two)
				if !slices.Equal(a, wantOne) || !slices.Equal(b, wantTwo) {
					t.Error(a, b)
				}
			}
		})
	}
	group.Wait()
}
