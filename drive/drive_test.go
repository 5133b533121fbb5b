package drive_test

import (
	"fmt"
	"math"
	"reflect"
	"slices"
	"strings"
	"sync"
	"testing"

	"kelpforest/alloc"
	"kelpforest/api"
	"kelpforest/check"
	"kelpforest/drive"
	"kelpforest/emit"
	"kelpforest/fold"
	"kelpforest/graph"
	"kelpforest/lex"
	"kelpforest/mach"
	"kelpforest/place"
	"kelpforest/run"
	"kelpforest/show"
	"kelpforest/tree"
)

// parse a text, as chapters 2 and 3 have it.
func parse(s string) ([]tree.Fun, error) {
	l, err := lex.Read(s)
	if err != nil {
		return nil, err
	}
	return tree.Parse(l)
}

func parsed(t *testing.T, s string) []tree.Fun {
	t.Helper()
	p, err := parse(s)
	if err != nil {
		t.Fatal(s, err)
	}
	return p
}

// compiled at a level, to an image that is well and has the text's functions.
func compiled(t *testing.T, s string, level int) emit.Image {
	t.Helper()
	m, err := drive.Compile(s, level)
	if err != nil {
		t.Fatalf("%v\n%s", err, s)
	}
	if err := emit.Check(m); err != nil {
		t.Fatalf("%v\n%s", err, s)
	}
	p := parsed(t, s)
	if len(m.Funs) != len(p) {
		t.Fatalf("%+v\n%s", m.Funs, s)
	}
	for i, f := range p {
		if m.Funs[i].Name != f.Name || m.Funs[i].Params != len(f.Params) {
			t.Fatalf("%+v\n%s", m.Funs, s)
		}
	}
	return m
}

func told(o api.Outcome) string {
	return fmt.Sprint(o.How, " ", o.Value, " ", o.Ticks, " ", o.Out)
}

// does: that a text's main does this, at both levels.
func does(t *testing.T, s string, args []int, ticks int, want string) {
	t.Helper()
	for level := range 2 {
		if o, err := drive.Run(s, level, "main", args, ticks); err != nil || told(o) != want {
			t.Errorf("level %d of %v with %d ticks: %s, %v; want %s\n%s", level, args, ticks, told(o), err, want, s)
		}
	}
}

// P141: the document's own examples.
func TestExamples(t *testing.T) {
	sum := "fn main(a) { var s = 0; while a { s = s + a; a = a - 1; } return s; }"
	does(t, sum, []int{4}, api.MaxTicks, "done 10 6 []")
	does(t, sum, []int{4}, 6, "done 10 6 []")
	does(t, sum, []int{4}, 5, "tired 0 5 []")
	does(t, "fn main() { print 7 / 0; return 7 % 0; }", nil, 1, "done 7 1 [0]")
	does(t, "fn main(a, b) { print a / b; return a % b; }", []int{7, 0}, 1, "done 7 1 [0]")
	does(t, "fn main(a) { return a + 2 * a; }", []int{5}, 1, "done 15 1 []")
}

// P141: what the language has, in small pieces.
func TestPieces(t *testing.T) {
	for _, c := range []struct {
		text string
		args []int
		want string
	}{
		{"fn main() { }", nil, "done 0 1 []"},
		{"fn main(a, b, c, d) { return a - b * c + d; }", []int{1, 2, 3, 4}, "done -1 1 []"},
		{"fn main(a) { a = a + 1; print a; a = -a; print a; }", []int{4}, "done 0 1 [5 -5]"},
		{"fn main(a) { if a { print 1; } else { print 2; } print 3; }", []int{0}, "done 0 1 [2 3]"},
		{"fn main(a) { if a { print 1; } else { print 2; } print 3; }", []int{-1}, "done 0 1 [1 3]"},
		{"fn main(a) { if a { return 4; } print 5; }", []int{2}, "done 4 1 []"},
		{"fn main(a) { if a { return 4; } print 5; }", []int{0}, "done 0 1 [5]"},
		{"fn main(a) { return a; print a; while 1 { } }", []int{2}, "done 2 1 []"},
		{"fn main(a) { while a < 3 { var b = a * 2; print b; a = a + 1; } return a; }", []int{1}, "done 3 4 [2 4]"},
		{"fn main(a) { while a { while 1 { return a; } } }", []int{6}, "done 6 3 []"},
		{"fn main(a, b) { while a { var t = a; a = b % a; b = t; } return b; }", []int{12, 18}, "done 6 4 []"},
		{"fn main(a) { return g(a) * 0 + 0 * g(a); } fn g(a) { print a; }", []int{8}, "done 0 3 [8 8]"},
		{"fn main(a) { if 0 { print f(); } if 1 { a = a + 1; } return a; } fn f() { print 9; }", []int{8}, "done 9 1 []"},
		{"fn main(a) { while f(a) < 5 { a = a + 1; } } fn f(a) { print a; return a * a; }", []int{1}, "done 0 7 [1 2 3]"},
		{"fn main() { return f(g(1), g(2)) - g(3); } fn f(a, b) { print a; return b; } fn g(a) { print -a; return a * 10; }", nil, "done -10 5 [-1 -2 10 -3]"},
		{"fn main() { print 2147483647; print 2147483648; print 4294967295; return 999999999999999999; }", nil, "done 999999999999999999 1 [2147483647 2147483648 4294967295]"},
		{"fn main(a) { var b = 1 << 63; print b / a; print b % a; print b - 1; return -b; }", []int{-1}, "done -9223372036854775808 1 [-9223372036854775808 0 9223372036854775807]"},
		{"fn main(a) { print a << 65; print a >> 0 - 1; print !a; print !!a; return a == a != (a <= a); }", []int{-3}, "done 0 1 [-6 -1 0 1]"},
	} {
		does(t, c.text, c.args, 99, c.want)
	}
}

// P141: each outcome, about its edges.
func TestOutcomes(t *testing.T) {
	none := "fn main() { }"
	does(t, none, nil, 0, "tired 0 0 []")
	does(t, none, nil, 1, "done 0 1 []")
	down := "fn main(a) { if a == 1 { return 5; } return main(a - 1); }"
	does(t, down, []int{api.MaxDeep}, 99, "done 5 40 []")
	does(t, down, []int{api.MaxDeep + 1}, 99, "deep 0 41 []")
	does(t, down, []int{api.MaxDeep + 1}, 41, "deep 0 41 []")
	does(t, down, []int{api.MaxDeep + 1}, 40, "tired 0 40 []")
	turns := "fn main(a) { while 1 { print a; a = a * 2; } }"
	does(t, turns, []int{3}, 1, "tired 0 1 []")
	does(t, turns, []int{3}, 2, "tired 0 2 [3]")
	does(t, turns, []int{3}, 4, "tired 0 4 [3 6 12]")
	does(t, "fn main() { while 1 { } }", nil, api.MaxTicks, "tired 0 5000 []")
	loud := "fn main(a) { while a { print 1; a = a - 1; } return 7; }"
	full := fmt.Sprint(slices.Repeat([]int{1}, api.MaxOut))
	does(t, loud, []int{api.MaxOut}, api.MaxTicks, "done 7 1002 "+full)
	does(t, loud, []int{api.MaxOut}, 1001, "tired 0 1001 "+full)
	does(t, loud, []int{api.MaxOut + 1}, api.MaxTicks, "loud 0 1002 "+full)
	does(t, loud, []int{-1}, 1001, "tired 0 1001 "+full)
}

// wrong: that a text at a level has just this error, with nothing beside, compiled and run.
func wrong(t *testing.T, what, s string, level int, want error) {
	t.Helper()
	m, err := drive.Compile(s, level)
	if !reflect.DeepEqual(err, want) || !reflect.DeepEqual(m, emit.Image{}) {
		t.Errorf("%s at level %d: %v, %v; want %v", what, level, m, err, want)
	}
	// A function that there may not be, arguments and ticks that none has: they are asked for behind the text.
	o, err := drive.Run(s, level, "zz", make([]int, 9), -1)
	if !reflect.DeepEqual(err, want) || !reflect.DeepEqual(o, api.Outcome{}) {
		t.Errorf("%s run at level %d: %s, %v; want %v", what, level, told(o), err, want)
	}
}

func at(place int, err error) error { return &api.Fault{At: place, Err: err} }

// P140, P141: errors of a text, each ahead of those that are named behind it.
func TestErrors(t *testing.T) {
	long := strings.Repeat(" ", api.MaxText)
	manyFuns := ""
	for k := range api.MaxFuns + 1 {
		manyFuns += fmt.Sprint("fn f", k, "() { } ")
	}
	for _, c := range []struct {
		what, text string
		want       error
	}{
		{"too long, with what is no token", "@" + long, api.ErrBound},
		{"no token, ahead of too many", strings.Repeat(";", api.MaxTokens+1) + "@", at(api.MaxTokens+1, api.ErrText)},
		{"no token, behind what no program has", "fn fn @", at(6, api.ErrText)},
		{"too long a name", "fn main() { return abcdefghi; }", at(19, api.ErrText)},
		{"too long a number", "fn main() { return 1234567890123456789; }", at(19, api.ErrText)},
		{"too many tokens, none of a program", strings.Repeat(";", api.MaxTokens+1), api.ErrFull},
		{"no program", "fn main() { return }", at(6, api.ErrText)},
		{"no program, behind what is not well", "fn main() { return a; } fn", at(10, api.ErrText)},
		{"no function", "var a = 1;", at(0, api.ErrText)},
		{"too deep", "fn main() { return " + strings.Repeat("(", api.MaxNest), at(6+api.MaxNest-1, api.ErrDeep)},
		{"too many functions", manyFuns, api.ErrFull},
		{"too many functions, ahead of what is not well", "fn f() { return a; } " + manyFuns, api.ErrFull},
		{"no variable", "fn f() { } fn main() { return a; }", at(1, api.ErrNone)},
		{"no function of this name", "fn main() { return f(); }", at(0, api.ErrNone)},
		{"a name twice", "fn f() { } fn g() { } fn f() { }", at(2, api.ErrExist)},
		{"too few arguments", "fn main(a) { return main(); }", at(0, api.ErrArgs)},
		{"too many parameters", "fn f() { } fn main(a, b, c, d, e) { }", at(1, api.ErrArgs)},
		{"too many variables", "fn main(a, b, c, d) { var e = 1; var f = 1; var g = 1; var h = 1; var i = 1; var j = 1; var k = 1; var l = 1; var m = 1; }", at(0, api.ErrFull)},
		{"also where nobody comes", "fn main() { return 1; print a; }", at(0, api.ErrNone)},
	} {
		for level := range 2 {
			wrong(t, c.what, c.text, level, c.want)
		}
		for _, level := range []int{-1, 2, 3, math.MinInt, math.MaxInt} {
			wrong(t, c.what, c.text, level, api.ErrBound)
		}
	}
	wrong(t, "a text that is well", "fn zz() { }", 2, api.ErrBound)
	wrong(t, "a text that is well", "fn zz() { }", -1, api.ErrBound)
}

// P141: errors of a run, each ahead of those that are named behind it, as package run has them.
func TestRunErrors(t *testing.T) {
	s := "fn main(a) { print a; } fn f() { }"
	for _, c := range []struct {
		name  string
		args  []int
		ticks int
		want  error
	}{
		{"zz", nil, -1, api.ErrNone},
		{"", []int{1}, 1, api.ErrNone},
		{"mai", []int{1}, 1, api.ErrNone},
		{"main", nil, -1, api.ErrArgs},
		{"main", []int{1, 2}, api.MaxTicks + 1, api.ErrArgs},
		{"f", []int{1}, 1, api.ErrArgs},
		{"f", make([]int, 5000), 1, api.ErrArgs},
		{"main", []int{1}, -1, api.ErrBound},
		{"main", []int{1}, api.MaxTicks + 1, api.ErrBound},
		{"f", nil, math.MinInt, api.ErrBound},
		{"f", nil, math.MaxInt, api.ErrBound},
		{"main", []int{1}, 0, nil},
		{"f", nil, api.MaxTicks, nil},
	} {
		_, asItStands := run.Run(parsed(t, s), c.name, c.args, c.ticks)
		for level := range 2 {
			o, err := drive.Run(s, level, c.name, c.args, c.ticks)
			if err != c.want || asItStands != c.want || err != nil && !reflect.DeepEqual(o, api.Outcome{}) {
				t.Errorf("%q of %v with %d: %s, %v; want %v (%v)", c.name, c.args, c.ticks, told(o), err, c.want, asItStands)
			}
		}
	}
}

// ways: the image that the packages make of a text, one behind the other.
func ways(t *testing.T, s string, level int) emit.Image {
	t.Helper()
	need := func(err error) {
		t.Helper()
		if err != nil {
			t.Fatal(err)
		}
	}
	p := parsed(t, s)
	need(check.Program(p))
	var l []alloc.Code
	for _, f := range p {
		g, err := graph.Build(f)
		need(err)
		if level == 1 {
			g, err = fold.Fold(g)
			need(err)
		}
		c, err := place.Place(g)
		need(err)
		low, err := alloc.Alloc(c)
		need(err)
		l = append(l, low)
	}
	m, err := emit.Emit(l)
	need(err)
	return m
}

// texts that are well, of many kinds.
func texts() []string {
	return []string{
		"fn main() { }",
		"fn main() { return 1 + 2 * 3 - !4; }",
		"fn main(a, b) { var s = 0; while a < b { s = s + a * a - 3; a = a + 1; print s; } return s; }",
		"fn f(n) { if n < 2 { return n; } return f(n - 1) + f(n - 2); } fn main(n) { return f(n); }",
		"fn main(a) { var b = 1; var c = 2; var d = 3; var e = 4; var f = 5; var g = 6; var h = 7; while a { var t = b; b = c; c = d; d = e; e = f; f = g; g = h; h = t; a = a - 1; print b; print h; } return b - c * d + e * f - g * h; }",
		"fn main(a) { if a { if a - 1 { return 5; } else { print 1; } } else { while a < 3 { a = a + 1; if a == 2 { return 77; } } } return a; }",
		"fn p(n) { print n; return n; } fn q(a, b, c, d) { return a - b + c * d; } fn main() { return q(p(1), p(2) - p(3), q(p(4), p(5), p(6), p(7)), -p(8)) + !p(0); }",
		"fn main(a) { var x = 123456789012345678; return (0 - x) / (a - 1) + x % a + a * a + a * a; }",
	}
}

// P140: what is made at each level, and that level 1 is the better one.
func TestLevels(t *testing.T) {
	for _, s := range append(texts(), "") {
		for level := range 2 {
			if m := compiled(t, s, level); !reflect.DeepEqual(m, ways(t, s, level)) {
				t.Errorf("level %d: %v\n%s", level, emit.List(m), s)
			}
		}
	}
	s := "fn main(a) { return 2 * 3 + a * a + a * a; }"
	has := func(level int, op string) int {
		return strings.Count(strings.Join(emit.List(compiled(t, s, level)), "\n"), op+" ")
	}
	if has(0, "mul") != 3 || has(1, "mul") != 1 || has(0, "add") != 2 || has(1, "add") != 2 {
		t.Error(emit.List(compiled(t, s, 0)), emit.List(compiled(t, s, 1)))
	}
}

// P140, P141: a text without a function has an image, of which nothing can be run.
func TestNothing(t *testing.T) {
	for _, s := range []string{"", " \n\t"} {
		for level := range 2 {
			m, err := drive.Compile(s, level)
			if err != nil || len(m.Funs)+len(m.Words) != 0 || drive.Size(m) != 0 {
				t.Error(m, err)
			}
			if o, err := drive.Run(s, level, "main", nil, 1); err != api.ErrNone || !reflect.DeepEqual(o, api.Outcome{}) {
				t.Error(o, err)
			}
		}
		if u, err := drive.Show(s); u != "" || err != nil {
			t.Error(u, err)
		}
	}
}

// P141: words, also of what is no image.
func TestSize(t *testing.T) {
	for _, many := range []int{0, 1, 7, api.MaxWords, api.MaxWords + 1} {
		m := emit.Image{Funs: make([]emit.Fun, 3), Words: make([]uint64, many, many+5)}
		if drive.Size(m) != many {
			t.Error(drive.Size(m), many)
		}
	}
	for _, s := range texts() {
		for level := range 2 {
			if m := compiled(t, s, level); drive.Size(m) != len(emit.List(m)) || drive.Size(m) == 0 {
				t.Error(drive.Size(m), s)
			}
		}
	}
}

// P141: a text anew: what is parsed, well or not.
func TestShow(t *testing.T) {
	for _, c := range []struct{ text, want string }{
		{"fn main(){}", "fn main() {\n}\n"},
		{"fn f(a,b){while(a){a=(a-1);print(b*(a+b));}}fn g(){return 0;}", "fn f(a, b) {\n\twhile a {\n\t\ta = a - 1;\n\t\tprint b * (a + b);\n\t}\n}\nfn g() {\n\treturn 0;\n}\n"},
		{"fn f(a, a) { return x; } fn f() { if 1 { } else { } }", "fn f(a, a) {\n\treturn x;\n}\nfn f() {\n\tif 1 {\n\t}\n}\n"},
		{strings.Repeat("fn f(){}", 9), strings.Repeat("fn f() {\n}\n", 9)},
	} {
		if u, err := drive.Show(c.text); u != c.want || err != nil {
			t.Errorf("%q, %v; want %q", u, err, c.want)
		}
	}
	for _, s := range texts() {
		if p, err := drive.Parse(s); err != nil || !reflect.DeepEqual(p, parsed(t, s)) {
			t.Errorf("%v, %v", p, err)
		}
		u, err := drive.Show(s)
		if err != nil || u != show.Program(parsed(t, s)) {
			t.Errorf("%q, %v", u, err)
		}
		for level := range 2 {
			if !reflect.DeepEqual(compiled(t, u, level), compiled(t, s, level)) {
				t.Errorf("another image of the text anew:\n%s", u)
			}
		}
	}
	for _, c := range []struct {
		text string
		want error
	}{
		{"@" + strings.Repeat(" ", api.MaxText), api.ErrBound},
		{"fn fn @", at(6, api.ErrText)},
		{strings.Repeat(";", api.MaxTokens+1), api.ErrFull},
		{"fn", at(1, api.ErrText)},
		{"fn f() { " + strings.Repeat("while 1 { ", api.MaxNest), at(5+3*api.MaxNest-1, api.ErrDeep)},
	} {
		if u, err := drive.Show(c.text); u != "" || !reflect.DeepEqual(err, c.want) {
			t.Errorf("%q, %v; want %v", u, err, c.want)
		}
		if p, err := drive.Parse(c.text); len(p) != 0 || !reflect.DeepEqual(err, c.want) {
			t.Errorf("%v, %v; want %v", p, err, c.want)
		}
	}
}

// P142: also run by mach, each function of an image is the text's.
func TestEachFunction(t *testing.T) {
	for _, s := range texts() {
		p := parsed(t, s)
		for level := range 2 {
			m := compiled(t, s, level)
			for _, f := range p {
				for _, ticks := range []int{0, 1, 9, 200} {
					args := []int{5, 9, -2, 3}[:len(f.Params)]
					want, e1 := run.Run(p, f.Name, args, ticks)
					o, e2 := mach.Run(m, f.Name, args, ticks)
					if e1 != nil || e2 != nil || told(o) != told(want) {
						t.Errorf("%s with %d at level %d: %s, %v; want %s, %v\n%s", f.Name, ticks, level, told(o), e2, told(want), e1, s)
					}
				}
			}
		}
	}
}

// P2, P3, P4: the same is made of the same, in new memory; arguments are only read, to their length.
func TestMemory(t *testing.T) {
	s := "fn main(a, b) { print a; a = f(b); print a; return a; } fn f(a) { return -a; }"
	for level := range 2 {
		first, second, other := compiled(t, s, level), compiled(t, s, level), compiled(t, s, 1-level)
		want := fmt.Sprint(first)
		for _, m := range []emit.Image{second, other} {
			for i := range m.Words[:cap(m.Words)] {
				m.Words[:cap(m.Words)][i] = 0
			}
			for i := range m.Funs[:cap(m.Funs)] {
				m.Funs[:cap(m.Funs)][i] = emit.Fun{}
			}
		}
		if fmt.Sprint(first) != want || fmt.Sprint(compiled(t, s, level)) != want {
			t.Error("two images share their memory")
		}
		args := []int{4, 5, 6}
		o, err := drive.Run(s, level, "main", args[:2], 9)
		if err != nil || told(o) != "done -5 2 [4 -5]" || !slices.Equal(args, []int{4, 5, 6}) {
			t.Error(told(o), err, args)
		}
		o.Out[0], args[0] = 77, 3
		again, err := drive.Run(s, level, "main", args[:2], 9)
		if err != nil || told(again) != "done -5 2 [3 -5]" || told(o) != "done -5 2 [77 -5]" {
			t.Error(told(again), told(o), err)
		}
	}
	m := emit.Image{Words: []uint64{1, 2, 3}}
	if drive.Size(emit.Image{Words: m.Words[:2]}) != 2 || !slices.Equal(m.Words, []uint64{1, 2, 3}) {
		t.Error(m)
	}
}

// P2: whatever was made ahead of it and is made beside it.
func TestSideBySide(t *testing.T) {
	type key struct{ text, level int }
	tell := func(k key) string {
		s := texts()[k.text]
		m, e1 := drive.Compile(s, k.level)
		o, e2 := drive.Run(s, k.level, "main", []int{3, 9}[:m.Funs[len(m.Funs)-1].Params], 50)
		u, e3 := drive.Show(s)
		return fmt.Sprint(m, e1, o, e2, u, e3)
	}
	want := map[key]string{}
	for k := range texts() {
		for level := range 2 {
			want[key{k, level}] = tell(key{k, level})
		}
	}
	var group sync.WaitGroup
	for from := range 16 {
		group.Go(func() {
			for i := range 10 * len(want) {
				k := key{(i + from) / 2 % len(texts()), (i + from) % 2}
				if got := tell(k); got != want[k] {
					t.Errorf("%s; it was %s", got, want[k])
				}
			}
		})
	}
	group.Wait()
}
