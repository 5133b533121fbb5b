package script_test

import (
	"fmt"
	"math/rand"
	"regexp"
	"slices"
	"strconv"
	"strings"
	"testing"

	"kelpforest/api"
	"kelpforest/check"
	"kelpforest/drive"
	"kelpforest/lex"
	"kelpforest/plain"
	"kelpforest/run"
	"kelpforest/script"
	"kelpforest/show"
	"kelpforest/tree"
	"kelpforest/val"
)

// teller answers lines as the chapter says, by patterns.
type teller struct {
	lines        []string
	level, ticks int
}

// command that lines of a pattern are; the pattern's parts are handed over.
type command struct {
	pattern *regexp.Regexp
	do      func(w *teller, parts []string) (string, error)
}

func commands() []command {
	const n = `(-?[1-9][0-9]{0,17}|0)`
	const word = `([^ ]+)`
	of := func(pattern string, do func(w *teller, parts []string) (string, error)) command {
		return command{regexp.MustCompile(`(?s)^` + pattern + `$`), do}
	}
	return []command{
		of(`add (.*)`, func(w *teller, parts []string) (string, error) {
			w.lines = append(w.lines, parts[0])
			return "ok", nil
		}),
		of(`clear`, func(w *teller, _ []string) (string, error) {
			w.lines = nil
			return "ok", nil
		}),
		of(`level `+n, func(w *teller, parts []string) (string, error) {
			if parts[0] != "0" && parts[0] != "1" {
				return "", api.ErrBound
			}
			w.level = whole(parts[0])
			return "ok", nil
		}),
		of(`ticks `+n, func(w *teller, parts []string) (string, error) {
			if strings.HasPrefix(parts[0], "-") || whole(parts[0]) > api.MaxTicks {
				return "", api.ErrBound
			}
			w.ticks = whole(parts[0])
			return "ok", nil
		}),
		of(`show`, func(w *teller, _ []string) (string, error) {
			p, err := w.program()
			return strings.Join(strings.Split(show.Program(p), "\n"), ";;"), err
		}),
		of(`vars `+word, (*teller).vars),
		of(`(run|mach) `+word+`((?: `+n+`)*)`, (*teller).call),
		of(`val `+n+` `+word+` `+n, func(_ *teller, parts []string) (string, error) {
			v, err := val.Do(parts[1], whole(parts[0]), whole(parts[2]))
			return fmt.Sprint(v), err
		}),
	}
}

func whole(s string) int {
	n, err := strconv.Atoi(s)
	if err != nil {
		panic(err)
	}
	return n
}

func (w *teller) text() string {
	s := ""
	for _, l := range w.lines {
		s += l + "\n"
	}
	return s
}

func (w *teller) program() ([]tree.Fun, error) {
	l, err := lex.Read(w.text())
	if err != nil {
		return nil, err
	}
	return tree.Parse(l)
}

func (w *teller) vars(parts []string) (string, error) {
	p, err := w.program()
	if err != nil {
		return "", err
	}
	for _, f := range p {
		if f.Name != parts[0] {
			continue
		}
		if len(check.Vars(f)) == 0 {
			return "nothing", nil
		}
		return strings.Join(check.Vars(f), " "), nil
	}
	return "", api.ErrNone
}

func (w *teller) call(parts []string) (string, error) {
	var args []int
	for _, s := range strings.Fields(parts[2]) {
		args = append(args, whole(s))
	}
	o, err := drive.Run(w.text(), w.level, parts[1], args, w.ticks)
	if parts[0] == "run" {
		p, wrong := w.program()
		if wrong != nil {
			return "", wrong
		}
		o, err = run.Run(p, parts[1], args, w.ticks)
	}
	return strings.TrimSpace(fmt.Sprint(o.How, " ", o.Value, " ", o.Ticks, " ", strings.Trim(fmt.Sprint(o.Out), "[]"))), err
}

// tell the answer of a line.
func (w *teller) tell(all []command, line string) string {
	for _, c := range all {
		parts := c.pattern.FindStringSubmatch(line)
		if parts == nil {
			continue
		}
		answer, err := c.do(w, parts[1:])
		if err != nil {
			code, _ := plain.Code(err)
			return "kelpforest: " + strings.Fields("text bound shape kind name none exist full args deep")[code-1]
		}
		return answer
	}
	return textText
}

// tosser writes scripts by chance.
type tosser struct{ *rand.Rand }

func (w tosser) pick(l ...string) string { return l[w.Intn(len(l))] }

func (w tosser) number() string {
	switch w.Intn(12) {
	case 0:
		return w.pick("01", "-0", "", "x", "1234567890123456789", "+1", "--1", "-", "1.5", "00")
	case 1:
		return w.pick("999999999999999999", "-999999999999999999", "5000", "5001", "4999", "100000000000000000")
	case 2:
		return strconv.Itoa(w.Intn(1e18)>>w.Intn(60) - w.Intn(2e9))
	}
	return strconv.Itoa(w.Intn(9) - 2)
}

func (w tosser) name() string {
	if w.Intn(8) == 0 {
		return w.pick("", "F", "9", "y", "while", "abcdefghi")
	}
	return w.pick("main", "main", "f", "g", "h", "x")
}

// well: a new program that is so, of some functions in any order.
func (w tosser) well() []string {
	l := []string{"clear"}
	funs := []string{"fn main(a) { while 0 < a { print a; a = a - 1; } return a + 5; }", "fn f(n, a) { if n < a { return n; } else { print n; } return f(n - 1, a) + 1; }", "fn g(a) { return g(a + 1); }", "fn h() { }", "fn x(a) { while 1 { a = a * 3; print a; } }"}
	for _, i := range w.Perm(len(funs))[:1+w.Intn(len(funs))] {
		for _, part := range strings.SplitAfterN(funs[i], "; ", 1+w.Intn(4)) {
			l = append(l, "add "+part)
		}
	}
	return l
}

// function of a program, or of none, in one line or in more.
func (w tosser) function() []string {
	head := w.pick("fn main(a)", "fn main(a)", "fn main(a, b)", "fn f(a)", "fn f(n, a)", "fn g(a)", "fn h(a, b, c, d)", "fn main()", "fn x(a, a)")
	l := []string{head + " {"}
	for range w.Intn(4) {
		l = append(l, w.pick("print a;", "a = a - 1;", "while a { print a; a = a - 1; }", "if a { print 1; } else { print 2; }", "var s = a * 3;", "return a + 1;", "print f(a);", "print g(a - 1);", "return b;", "while 1 { }", "print", "while a { if a < 3 { print a; return 7; } a = a + 1; }", "return -(a - !a) << 2;"))
	}
	l = append(l, w.pick("}", "}", "}", "}", "}", "}", "} }", "", "return 5; }", "@"))
	if w.Intn(2) == 0 {
		return []string{"add " + strings.Join(l, " ")}
	}
	for i := range l {
		l[i] = "add " + l[i]
	}
	return l
}

func (w tosser) line() string {
	switch w.Intn(18) {
	case 0:
		return w.pick("clear", "add ", "add  ", "add \n")
	case 1:
		return "level " + w.pick("0", "1", "0", "1", w.number())
	case 2:
		return "ticks " + w.pick("0", "3", "60", "5000", "5000", w.number())
	case 3:
		return "show"
	case 4, 5:
		return "vars " + w.name()
	case 6:
		return "val " + w.number() + " " + w.pick(append(val.Ops(), "!", "x", "", "12")...) + " " + w.number()
	case 7:
		return w.pick("add", "", "what", "clear 1", "show ", " show", "run", "mach", "vars", "val", "level", "ticks", "val 1", "runmain")
	}
	line := w.pick("run ", "mach ") + w.name()
	for range []int{0, 1, 1, 1, 2}[w.Intn(5)] {
		line += " " + w.number()
	}
	return line
}

// script with each call in both ways, one behind the other.
func (w tosser) script() []string {
	var l []string
	for most := w.Intn(api.MaxLines + 1); len(l) < most; {
		switch w.Intn(16) {
		case 0:
			l = append(l, w.function()...)
			continue
		case 1, 2:
			l = append(l, w.well()...)
			continue
		}
		line := w.line()
		l = append(l, line)
		if other, is := other(line); is {
			l = append(l, other)
		}
	}
	return l[:min(len(l), api.MaxLines)]
}

// other: the same call in the other way.
func other(line string) (string, bool) {
	if words, is := strings.CutPrefix(line, "run "); is {
		return "mach " + words, true
	}
	if words, is := strings.CutPrefix(line, "mach "); is {
		return "run " + words, true
	}
	return "", false
}

// kind of a line and its answer: their first words.
func kind(line, answer string) string {
	first, _, _ := strings.Cut(line, " ")
	told, _, _ := strings.Cut(strings.TrimPrefix(answer, "kelpforest: "), " ")
	if _, err := strconv.Atoi(told); err == nil {
		told = "number"
	}
	return first + " " + told
}

// P160 to P162: scripts by chance, held against what the patterns tell; the same again, and calls in both ways alike.
func TestByChance(t *testing.T) {
	w := tosser{rand.New(rand.NewSource(160))}
	all := commands()
	seen := map[string]int{}
	for range 1500 {
		l := w.script()
		got, err := script.Run(l)
		again, _ := script.Run(l)
		if err != nil || len(got) != len(l) || !slices.Equal(got, again) {
			t.Fatal(l, got, again, err)
		}
		truth := &teller{level: 1, ticks: 1000}
		for i, line := range l {
			if want := truth.tell(all, line); got[i] != want {
				t.Fatalf("%d, %q: %q, not %q\n%q", i, line, got[i], want, l)
			}
			seen[kind(line, got[i])]++
			if i == 0 {
				continue
			}
			if again, is := other(line); is && again == l[i-1] && got[i] != got[i-1] {
				t.Fatalf("%d, %q: %q, not %q\n%q", i, line, got[i], got[i-1], l)
			}
		}
	}
	for _, k := range []string{"run done", "run tired", "run deep", "run loud", "run text", "run none", "run args", "run exist", "mach done", "mach tired", "mach deep", "mach loud", "mach text", "mach none", "mach args", "mach exist", "vars none", "vars nothing", "vars text", "vars a", "vars n", "val kind", "val text", "val number", "level ok", "level bound", "level text", "ticks ok", "ticks bound", "ticks text", "show fn", "show text", "show ", "clear ok", "add ok", "add text", "what text"} {
		if seen[k] < 20 {
			t.Errorf("too few of %q: %v", k, seen)
		}
	}
}

// P162: run and mach tell the same of programs of many lines, at both levels and with any ticks.
func TestManyLines(t *testing.T) {
	w := tosser{rand.New(rand.NewSource(162))}
	heads := []string{"fn main(a)", "fn f(a)", "fn g(a)", "fn h(a)", "fn i(a)", "fn j(a)", "fn k(a)", "fn l(a)"}
	seen := map[string]int{}
	for range 200 {
		var l []string
		for i, head := range heads {
			body := "add " + head + " { var b = a; "
			if i+1 < len(heads) {
				body += "b = " + heads[i+1][len("fn "):] + w.pick(";", " * 2;", " + a;")
			}
			l = append(l, body)
			for range 3 {
				l = append(l, "add  "+w.pick("while 0 < a { print a; a = a - 1; b = b + a; }", "if a < b { a = a + 1; print a - b; } else { b = -a; }", "print a * b + (a ^ 5); b = b >> 1;", "while 0 < b { b = b - 2; if b == 1 { return a; } }", "var c"+strconv.Itoa(len(l))+" = a - b; print c"+strconv.Itoa(len(l))+" % 3;"))
			}
			l = append(l, "add  return "+w.pick("a + b;", "b;", "a - 1;")+" }")
		}
		call := w.pick("main ", "main ", "f ", "h ") + strconv.Itoa(w.Intn(12)-2)
		l = append(l, "ticks "+strconv.Itoa([]int{w.Intn(30), w.Intn(300), 5000}[w.Intn(3)]))
		before := len(l)
		l = append(l, "run "+call, "mach "+call, "level 0", "mach "+call, "run "+call, "level 1", "mach "+call)
		got, err := script.Run(l)
		if err != nil || len(got) != len(l) {
			t.Fatal(l, got, err)
		}
		for _, i := range []int{1, 3, 4, 6} {
			if got[before+i] != got[before] {
				t.Fatalf("%q, not %q\n%q", got[before+i], got[before], l)
			}
		}
		seen[strings.Split(got[before], " ")[0]]++
	}
	if seen["done"] < 50 || seen["tired"] < 50 || seen["done"]+seen["tired"]+seen["loud"] != 200 {
		t.Error(seen)
	}
}
