package run_test

import (
	"fmt"
	"math"
	"math/rand"
	"reflect"
	"slices"
	"strconv"
	"strings"
	"testing"

	"kelpforest/api"
	"kelpforest/check"
	"kelpforest/lex"
	"kelpforest/run"
	"kelpforest/show"
	"kelpforest/tree"
	"kelpforest/val"
)

func parse(t *testing.T, s string) []tree.Fun {
	t.Helper()
	l, err := lex.Read(s)
	if err != nil {
		t.Fatalf("Read(%q): %v", s, err)
	}
	p, err := tree.Parse(l)
	if err != nil {
		t.Fatalf("Parse(%q): %v", s, err)
	}
	return p
}

// told: an outcome as text.
func told(o api.Outcome) string {
	if len(o.Out) > 20 {
		return fmt.Sprint(o.How, " ", o.Value, " ", o.Ticks, " ", len(o.Out), " numbers to ", o.Out[len(o.Out)-1])
	}
	return fmt.Sprint(o.How, " ", o.Value, " ", o.Ticks, " ", o.Out)
}

// does: that function main of a program comes to an outcome.
func does(t *testing.T, s string, args []int, ticks int, want string) {
	t.Helper()
	o, err := run.Run(parse(t, s), "main", args, ticks)
	if err != nil || told(o) != want {
		t.Errorf("%s of %v with %d ticks: %s, %v; want %s", s, args, ticks, told(o), err, want)
	}
}

// helpers that print, so that an order can be told.
const helpers = " fn p(n) { print n; return n; } fn q(n) { print n; return 0; } fn two(a, b) { print a * 10 + b; return a; }"

// P60: statements.
func TestStatements(t *testing.T) {
	for _, c := range []struct {
		s    string
		args []int
		want string
	}{
		{"fn main() { }", nil, "done 0 1 []"},
		{"fn main(a) { }", []int{7}, "done 0 1 []"},
		{"fn main(a) { a = 5; print a; }", []int{7}, "done 0 1 [5]"},
		{"fn main(a, b, c, d) { print a; print b; print c; return d; }", []int{1, -2, 3, math.MinInt}, "done -9223372036854775808 1 [1 -2 3]"},
		{"fn main() { var x = 1; var y = x + 1; x = y * 5; print x; return y; }", nil, "done 2 1 [10]"},
		{"fn main() { return 1; return 2; }", nil, "done 1 1 []"},
		{"fn main() { print 1; return 5; print 2; }", nil, "done 5 1 [1]"},
		{"fn main(a) { if a { print 1; } print 2; }", []int{1}, "done 0 1 [1 2]"},
		{"fn main(a) { if a { print 1; } print 2; }", []int{0}, "done 0 1 [2]"},
		{"fn main(a) { if a { print 1; } else { print 3; } print 2; }", []int{-1}, "done 0 1 [1 2]"},
		{"fn main(a) { if a { print 1; } else { print 3; } print 2; }", []int{0}, "done 0 1 [3 2]"},
		{"fn main(a) { if a { } else { print 3; } }", []int{2}, "done 0 1 []"},
		{"fn main(a) { if a { return 4; } else { return 5; } return 6; }", []int{2}, "done 4 1 []"},
		{"fn main(a) { if a { return 4; } else { return 5; } return 6; }", []int{0}, "done 5 1 []"},
		{"fn main(a) { if a { if a - 1 { return 4; } print 8; } return 6; }", []int{1}, "done 6 1 [8]"},
		{"fn main(a) { while a { print a; a = a - 1; } return 9; }", []int{3}, "done 9 5 [3 2 1]"},
		{"fn main(a) { while a { print a; a = a + 1; } return 9; }", []int{-2}, "done 9 4 [-2 -1]"},
		{"fn main(a) { while a { print a; a = a - 1; } return 9; }", []int{0}, "done 9 2 []"},
		{"fn main(a) { while a { while 1 { return 8; } } return 9; }", []int{3}, "done 8 3 []"},
		{"fn main(a) { while a { var b = 2; while b { print a * 10 + b; b = b - 1; } a = a - 1; } }", []int{2}, "done 0 10 [22 21 12 11]"},
		{"fn main(a) { while a { var x = a; print x; x = 100; a = a - 1; } }", []int{2}, "done 0 4 [2 1]"},
		{"fn main(a) { var s = 0; while a { s = s + a; a = a - 1; } return s; }", []int{4}, "done 10 6 []"},
	} {
		does(t, c.s, c.args, api.MaxTicks, c.want)
	}
}

// P60: expressions, from the left, both kids ahead of the op, arguments ahead of the call.
func TestExpressions(t *testing.T) {
	for _, c := range []struct{ s, want string }{
		{"return 999999999999999999;", "done 999999999999999999 1 []"},
		{"return 7 / 0 + 7 % 0 * 10;", "done 70 1 []"},
		{"return -5 + !0 + !3;", "done -4 1 []"},
		{"return 1 - 2 - 3;", "done -4 1 []"},
		{"return 1 << 66;", "done 4 1 []"},
		{"return 999999999999999999 * 10;", "done -8446744073709551626 1 []"},
		{"return p(1) - p(2) * p(3);", "done -5 4 [1 2 3]"},
		{"return p(1) * p(2) - p(3);", "done -1 4 [1 2 3]"},
		{"return p(1) - (p(2) - p(3));", "done 2 4 [1 2 3]"},
		{"return q(1) & p(2);", "done 0 3 [1 2]"},
		{"return p(1) | p(2);", "done 3 3 [1 2]"},
		{"return q(1) * p(2) == p(0);", "done 1 4 [1 2 0]"},
		{"return two(p(1), two(p(2), p(3)));", "done 1 6 [1 2 3 23 12]"},
		{"return two(two(p(1), p(2)), p(3));", "done 1 6 [1 2 12 3 13]"},
		{"return -p(3) - !p(4);", "done -3 3 [3 4]"},
		{"return p(p(p(2) + 1) + 1);", "done 4 4 [2 3 4]"},
		{"print p(1) + 1; return 0;", "done 0 2 [1 2]"},
		{"if q(1) { print 8; } else { print p(2); }", "done 0 3 [1 2 2]"},
		{"var x = p(3); while p(x) { x = x - 1; } return p(8);", "done 8 11 [3 3 2 1 0 8]"},
		{"var x = 2; x = x * x + p(x); return x;", "done 6 2 [2]"},
	} {
		does(t, "fn main() { "+c.s+" }"+helpers, nil, api.MaxTicks, c.want)
	}
}

// P60: every op does as it does with numbers alone.
func TestOps(t *testing.T) {
	numbers := []int{0, 1, -1, 2, 7, -7, 63, 64, 65, math.MaxInt, math.MinInt}
	for _, op := range val.Ops() {
		p := parse(t, "fn main(a, b) { return a "+op+" b; }")
		for _, a := range numbers {
			for _, b := range numbers {
				want, _ := val.Do(op, a, b)
				o, err := run.Run(p, "main", []int{a, b}, 1)
				if err != nil || o.How != "done" || o.Value != want {
					t.Errorf("%d %s %d: %s, %v; want %d", a, op, b, told(o), err, want)
				}
			}
		}
	}
	for _, op := range []string{"-", "!"} {
		p := parse(t, "fn main(a) { return "+op+"a; }")
		for _, a := range numbers {
			want, _ := val.One(op, a)
			o, err := run.Run(p, "main", []int{a}, 1)
			if err != nil || o.How != "done" || o.Value != want {
				t.Errorf("%s %d: %s, %v; want %d", op, a, told(o), err, want)
			}
		}
	}
}

// P60: each call has its own variables.
func TestOwnVariables(t *testing.T) {
	does(t, "fn main(a) { var x = a; if a { x = main(a - 1) * 10 + x; } print x; return a; }", []int{3}, 9, "done 3 4 [0 1 12 23]")
	does(t, "fn f(x) { x = x + 1; var y = x; return y; } fn main(x) { var y = 5; print f(x); print x; return y; }", []int{1}, 9, "done 5 2 [2 1]")
	does(t, "fn f(n) { if n < 2 { return n; } return f(n - 1) + f(n - 2); } fn main(n) { return f(n); }", []int{7}, 100, "done 13 42 []")
	does(t, "fn even(n) { if n { return odd(n - 1); } return 1; } fn main(n) { return even(n) * 10 + odd(n); } fn odd(n) { if n { return even(n - 1); } return 0; }", []int{6}, 100, "done 10 15 []")
}

// P60: any function may be the first, and it is taken by its whole name.
func TestByName(t *testing.T) {
	p := parse(t, "fn f() { return 1; } fn ff(a) { return a; } fn main() { return 3; } fn g(a, b) { return a - b; }")
	for _, c := range []struct {
		name string
		args []int
		want string
	}{
		{"f", nil, "done 1 1 []"},
		{"f", []int{}, "done 1 1 []"},
		{"ff", []int{-4}, "done -4 1 []"},
		{"main", nil, "done 3 1 []"},
		{"g", []int{1, 5}, "done -4 1 []"},
	} {
		if o, err := run.Run(p, c.name, c.args, 1); err != nil || told(o) != c.want {
			t.Errorf("%s of %v: %s, %v; want %s", c.name, c.args, told(o), err, c.want)
		}
	}
}

// P61: what is a tick, and when it is taken.
func TestTicks(t *testing.T) {
	for _, c := range []struct {
		s     string
		ticks int
		want  string
	}{
		{"", 0, "tired 0 0 []"},
		{"", 1, "done 0 1 []"},
		{"print 1; return 5;", 0, "tired 0 0 []"},
		{"print 1; if 1 { print 2; } return 5;", 1, "done 5 1 [1 2]"},
		{"while 0 { } return 5;", 1, "tired 0 1 []"},
		{"while 0 { } return 5;", 2, "done 5 2 []"},
		{"while p(0) { }", 1, "tired 0 1 []"},
		{"while p(0) { }", 2, "tired 0 2 []"},
		{"while p(0) { }", 3, "done 0 3 [0]"},
		{"while p(1) { print 2; }", 3, "tired 0 3 [1 2]"},
		{"while p(1) { print 2; }", 4, "tired 0 4 [1 2]"},
		{"while p(1) { print 2; }", 5, "tired 0 5 [1 2 1 2]"},
		{"while 1 { return 7; }", 2, "done 7 2 []"},
		{"return two(p(1), p(2));", 1, "tired 0 1 []"},
		{"return two(p(1), p(2));", 2, "tired 0 2 [1]"},
		{"return two(p(1), p(2));", 3, "tired 0 3 [1 2]"},
		{"return two(p(1), p(2));", 4, "done 1 4 [1 2 12]"},
		{"print p(1); print 5;", 1, "tired 0 1 []"},
		{"return p(1) + p(2) * p(3);", 3, "tired 0 3 [1 2]"},
		{"if p(1) { print p(4); } print 3;", 2, "tired 0 2 [1]"},
		{"if q(1) { print 3; } else { print p(4); } print 3;", 2, "tired 0 2 [1]"},
		{"return -p(1) + !p(2);", 2, "tired 0 2 [1]"},
		{"while 1 { }", api.MaxTicks, "tired 0 5000 []"},
		{"while 1 { while 0 { } }", 6, "tired 0 6 []"},
	} {
		does(t, "fn main() { "+c.s+" }"+helpers, nil, c.ticks, c.want)
	}
}

// P61: nothing is done behind the tick that there is not, however deep it lies.
func TestTiredInside(t *testing.T) {
	does(t, "fn f() { print 1; while 1 { } print 2; return 3; } fn main() { var x = f(); print x; while f() { print 4; } return 5; }", nil, 9, "tired 0 9 [1]")
	does(t, "fn f(n) { if n { print f(n - 1); } else { while 1 { } } print n; return n; } fn main() { return f(3) + f(2); }", nil, 30, "tired 0 30 []")
}

// P61: deep is told behind its tick, of calls in calls alone.
func TestDeep(t *testing.T) {
	down := "fn main(n) { print n; if n { var x = main(n - 1); print x; } return n + 100; }"
	for _, c := range []struct {
		s     string
		arg   int
		ticks int
		want  string
	}{
		{"fn main(a) { return main(a + 1); }", 0, 100, "deep 0 41 []"},
		{"fn main(a) { return main(a + 1); }", 0, api.MaxDeep, "tired 0 40 []"},
		{"fn main(a) { return main(a + 1); }", 0, api.MaxDeep + 1, "deep 0 41 []"},
		{"fn main(n) { if n { return main(n - 1) + 1; } return 0; }", api.MaxDeep - 1, 100, "done 39 40 []"},
		{"fn main(n) { if n { return main(n - 1) + 1; } return 0; }", api.MaxDeep, 100, "deep 0 41 []"},
		{down, 2, 100, "done 102 3 [2 1 0 100 101]"},
		{down, api.MaxDeep - 1, 100, "done 139 40 79 numbers to 138"},
		{down, api.MaxDeep, 100, "deep 0 41 40 numbers to 1"},
		{"fn f(n) { return n; } fn main(n) { while n { n = f(n) - 1; } return f(n); }", 100, 300, "done 0 203 []"},
		{"fn f(n) { if n { return f(n - 1); } return 0; } fn main(n) { print f(n); print f(n); return f(n); }", api.MaxDeep - 2, 300, "done 0 118 [0 0]"},
		{"fn f(n) { if n { return f(n - 1); } return 0; } fn main(n) { print f(n); print f(n + 1); print 5; }", api.MaxDeep - 2, 300, "deep 0 80 [0]"},
		{"fn f() { return g(); } fn g() { print 1; return f(); } fn main(n) { return f() + f(); }", 0, 100, "deep 0 41 [1 1 1 1 1 1 1 1 1 1 1 1 1 1 1 1 1 1 1]"},
	} {
		does(t, c.s, []int{c.arg}, c.ticks, c.want)
	}
}

// P61: arguments are reckoned ahead of the call, so that calls in them are not in it.
func TestNotDeepInArguments(t *testing.T) {
	e := "1"
	for range api.MaxNest - 2 {
		e = "f(" + e + ")"
	}
	body := strings.Repeat("a = "+e+" + a; ", 5)
	does(t, "fn f(a) { return a + 1; } fn main(a) { "+body+"return a; }", []int{0}, 100, "done 55 51 []")
}

// P61: a print behind the last one that there may be; its expression is still reckoned.
func TestLoud(t *testing.T) {
	n := strconv.Itoa(api.MaxOut)
	count := "fn main(n) { while n { n = n - 1; print n; } return 7; }"
	does(t, count, []int{api.MaxOut}, api.MaxTicks, "done 7 1002 "+n+" numbers to 0")
	does(t, count, []int{api.MaxOut + 1}, api.MaxTicks, "loud 0 1002 "+n+" numbers to 1")
	does(t, count, []int{api.MaxOut + 1}, api.MaxOut+1, "tired 0 1001 "+n+" numbers to 1")
	does(t, count, []int{api.MaxOut + 1}, api.MaxOut+2, "loud 0 1002 "+n+" numbers to 1")
	does(t, "fn f(n) { return n; } fn main(n) { while n { print f(n); n = n - 1; } }", []int{api.MaxOut + 1}, api.MaxTicks, "loud 0 2003 "+n+" numbers to 2")
	does(t, "fn f(n) { while n { print n; n = n - 1; } return 3; } fn main(n) { print f(n); print f(n); return 2; }", []int{api.MaxOut / 2}, api.MaxTicks, "loud 0 1004 "+n+" numbers to 2")
	does(t, "fn f(n) { print n; return n; } fn main(n) { while f(n) { n = n - 1; } return f(8); }", []int{api.MaxOut - 2}, api.MaxTicks, "done 8 2000 "+n+" numbers to 8")
	does(t, "fn f(n) { print n; return n; } fn main(n) { while f(n) { n = n - 1; } return f(8); }", []int{api.MaxOut - 1}, api.MaxTicks, "loud 0 2002 "+n+" numbers to 0")
}

// P60: errors, each ahead of those that are named behind it.
func TestErrors(t *testing.T) {
	well := parse(t, "fn f() { } fn main(a) { return a; }")
	many := make([]tree.Fun, api.MaxFuns+1)
	for i := range many {
		many[i].Name = "f" + string(rune('a'+i))
	}
	for _, c := range []struct {
		what  string
		l     []tree.Fun
		name  string
		args  []int
		ticks int
		want  error
	}{
		{"no function", nil, "main", nil, 1, api.ErrNone},
		{"no function", nil, "main", []int{1}, -1, api.ErrNone},
		{"too many", many, "zz", []int{1}, -1, api.ErrFull},
		{"too many", many, "fa", nil, 1, api.ErrFull},
		{"as many as may be", many[:api.MaxFuns], "fh", nil, 1, nil},
		{"another name", well, "mai", nil, -1, api.ErrNone},
		{"another name", well, "mainn", []int{1}, 1, api.ErrNone},
		{"a name that is none", well, "", nil, 1, api.ErrNone},
		{"a name that is none", well, "while", nil, 1, api.ErrNone},
		{"a name that is none", well, "f ", nil, 1, api.ErrNone},
		{"a variable", well, "a", nil, 1, api.ErrNone},
		{"too few", well, "main", nil, -1, api.ErrArgs},
		{"too few", well, "main", []int{}, 1, api.ErrArgs},
		{"too many arguments", well, "main", []int{1, 2}, 5001, api.ErrArgs},
		{"too many arguments", well, "f", make([]int, 5000), 1, api.ErrArgs},
		{"ticks", well, "main", []int{1}, -1, api.ErrBound},
		{"ticks", well, "main", []int{1}, math.MinInt, api.ErrBound},
		{"ticks", well, "main", []int{1}, api.MaxTicks + 1, api.ErrBound},
		{"ticks", well, "f", nil, math.MaxInt, api.ErrBound},
		{"ticks", well, "main", []int{1}, 0, nil},
		{"ticks", well, "main", []int{1}, api.MaxTicks, nil},
	} {
		o, err := run.Run(c.l, c.name, c.args, c.ticks)
		if err != c.want || err != nil && !reflect.DeepEqual(o, api.Outcome{}) {
			t.Errorf("%s: %s of %v with %d: %s, %v; want %v", c.what, c.name, c.args, c.ticks, told(o), err, c.want)
		}
	}
}

// P60: what is not well is told as check tells it, also where it lies in a function that is not called.
func TestNotWell(t *testing.T) {
	for _, s := range []string{
		"fn main() { } fn f() { return a; }",
		"fn main() { return 1; return g(); } fn g(a) { }",
		"fn f() { } fn main() { if 0 { x = 1; } }",
		"fn main() { } fn main() { }",
		"fn main(a, a) { }",
		"fn main(a, b, c, d, e) { }",
		"fn main() { var a = 1; if 0 { var a = 2; } }",
	} {
		p := parse(t, s)
		want := check.Program(p).(*api.Fault)
		for _, c := range []struct {
			name  string
			ticks int
		}{{"main", 5}, {"zz", -1}} {
			o, err := run.Run(p, c.name, nil, c.ticks)
			f, ok := err.(*api.Fault)
			if !ok || *f != *want || !reflect.DeepEqual(o, api.Outcome{}) {
				t.Errorf("%s: %s, %v; want %v at %d", s, told(o), err, want, want.At)
			}
		}
	}
	for _, s := range []tree.Stmt{
		{},
		{Kind: "goto", E: tree.Expr{Kind: "num"}},
		{Kind: "print"},
		{Kind: "print", E: tree.Expr{Kind: "two", Name: "+"}},
		{Kind: "print", E: tree.Expr{Kind: "one", Name: "~", Kids: []tree.Expr{{Kind: "num"}}}},
		{Kind: "print", E: tree.Expr{Kind: "num", Num: -1}},
	} {
		o, err := run.Run([]tree.Fun{{Name: "f"}, {Name: "main", Body: []tree.Stmt{s}}}, "f", nil, 5)
		if f, ok := err.(*api.Fault); !ok || f.At != 1 || f.Err != api.ErrShape || !reflect.DeepEqual(o, api.Outcome{}) {
			t.Errorf("%v: %s, %v", s, told(o), err)
		}
	}
}

// event of a trace: a tick, a number that is printed, or how it ends.
type event struct {
	kind string
	n    int
}

// tracer runs a program with all the ticks that there may be, and writes down what happens; with fewer of them it is cut off.
type tracer struct {
	funs  []tree.Fun
	trace []event
	ticks int
	out   int
	deep  int
}

// ended and answered are thrown through all that is still under way.
type ended struct{}
type answered int

func (r *tracer) end(how string, n int) {
	r.trace = append(r.trace, event{how, n})
	panic(ended{})
}

func (r *tracer) tick() {
	if r.ticks++; r.ticks > api.MaxTicks {
		r.end("tired", 0)
	}
	r.trace = append(r.trace, event{kind: "tick"})
}

func (r *tracer) call(name string, args []int) (value int) {
	r.tick()
	if r.deep++; r.deep > api.MaxDeep {
		r.end("deep", 0)
	}
	defer func() {
		r.deep--
		switch x := recover().(type) {
		case nil:
		case answered:
			value = int(x)
		default:
			panic(x)
		}
	}()
	f := r.funs[slices.IndexFunc(r.funs, func(f tree.Fun) bool { return f.Name == name })]
	r.block(f.Body, slices.Clone(f.Params), slices.Clone(args))
	return 0
}

// block with the variables around it, whose numbers it changes in their place; its own are gone with it.
func (r *tracer) block(l []tree.Stmt, names []string, numbers []int) {
	around := len(names)
	mine := slices.Clone(numbers)
	defer func() { copy(numbers, mine[:around]) }()
	for _, s := range l {
		switch s.Kind {
		case "var":
			mine = append(mine, r.expr(s.E, names, mine))
			names = append(slices.Clone(names), s.Name)
		case "set":
			v := r.expr(s.E, names, mine)
			mine[slices.Index(names, s.Name)] = v
		case "if":
			next := s.Else
			if r.expr(s.E, names, mine) != 0 {
				next = s.Then
			}
			r.block(next, names, mine)
		case "while":
			for r.asks(s.E, names, mine) {
				r.block(s.Then, names, mine)
			}
		case "print":
			v := r.expr(s.E, names, mine)
			if r.out++; r.out > api.MaxOut {
				r.end("loud", 0)
			}
			r.trace = append(r.trace, event{"print", v})
		case "return":
			panic(answered(r.expr(s.E, names, mine)))
		}
	}
}

func (r *tracer) asks(e tree.Expr, names []string, numbers []int) bool {
	r.tick()
	return r.expr(e, names, numbers) != 0
}

func (r *tracer) expr(e tree.Expr, names []string, numbers []int) int {
	switch e.Kind {
	case "num":
		return e.Num
	case "name":
		return numbers[slices.Index(names, e.Name)]
	case "one":
		v, _ := val.One(e.Name, r.expr(e.Kids[0], names, numbers))
		return v
	case "two":
		left := r.expr(e.Kids[0], names, numbers)
		v, _ := val.Do(e.Name, left, r.expr(e.Kids[1], names, numbers))
		return v
	}
	var args []int
	for _, k := range e.Kids {
		args = append(args, r.expr(k, names, numbers))
	}
	return r.call(e.Name, args)
}

// traced: all that a function does, to its end.
func traced(l []tree.Fun, name string, args []int) []event {
	r := &tracer{funs: l}
	func() {
		defer func() {
			if x := recover(); x != nil && x != any(ended{}) {
				panic(x)
			}
		}()
		r.end("done", r.call(name, args))
	}()
	return r.trace
}

// cut a trace at the first tick that is more than ticks.
func cut(trace []event, ticks int) api.Outcome {
	var o api.Outcome
	for _, e := range trace {
		switch {
		case e.kind == "tick" && o.Ticks == ticks:
			o.How = "tired"
			return o
		case e.kind == "tick":
			o.Ticks++
		case e.kind == "print":
			o.Out = append(o.Out, e.n)
		default:
			o.How, o.Value = e.kind, e.n
		}
	}
	return o
}

func same(a, b api.Outcome) bool {
	return a.How == b.How && a.Value == b.Value && a.Ticks == b.Ticks && slices.Equal(a.Out, b.Out)
}

// grower of programs that are well.
type grower struct {
	*rand.Rand
	funs  []tree.Fun
	at    int
	vars  []string
	count int
}

// called: mostly a function behind this one, for with any of them most programs are deep.
func (g *grower) called() (tree.Fun, bool) {
	least := g.at + 1
	if g.Intn(8) == 0 {
		least = 0
	}
	if least == len(g.funs) {
		return tree.Fun{}, false
	}
	return g.funs[least+g.Intn(len(g.funs)-least)], true
}

func (g *grower) expr(deep int) tree.Expr {
	switch n := g.Intn(10); {
	case deep == 0 && n < 3 || n < 1 || len(g.vars) == 0 && n < 4:
		return tree.Expr{Kind: "num", Num: g.Intn(6)}
	case deep == 0 || n < 5:
		if len(g.vars) == 0 {
			return tree.Expr{Kind: "num", Num: g.Intn(6)}
		}
		return tree.Expr{Kind: "name", Name: g.vars[g.Intn(len(g.vars))]}
	case n < 6:
		return tree.Expr{Kind: "one", Name: []string{"-", "!"}[g.Intn(2)], Kids: []tree.Expr{g.expr(deep - 1)}}
	case n < 8:
		ops := val.Ops()
		return tree.Expr{Kind: "two", Name: ops[g.Intn(len(ops))], Kids: []tree.Expr{g.expr(deep - 1), g.expr(deep - 1)}}
	}
	f, ok := g.called()
	if !ok {
		return g.expr(deep - 1)
	}
	e := tree.Expr{Kind: "call", Name: f.Name}
	for range f.Params {
		e.Kids = append(e.Kids, g.expr(deep-1))
	}
	return e
}

func (g *grower) block(deep, most int) []tree.Stmt {
	here := len(g.vars)
	var l []tree.Stmt
	for range g.Intn(most + 1) {
		l = append(l, g.stmt(deep)...)
	}
	g.vars = g.vars[:here]
	return l
}

// stmt, or several that belong to each other.
func (g *grower) stmt(deep int) []tree.Stmt {
	n := g.Intn(12)
	e := g.expr(2)
	switch {
	case n < 2 && g.count < 8:
		name := "v" + string(rune('a'+g.count))
		g.count++
		g.vars = append(g.vars, name)
		return []tree.Stmt{{Kind: "var", Name: name, E: e}}
	case n < 4 && len(g.vars) > 0:
		return []tree.Stmt{{Kind: "set", Name: g.vars[g.Intn(len(g.vars))], E: e}}
	case n < 6 && deep > 0:
		return []tree.Stmt{{Kind: "if", E: e, Then: g.block(deep-1, 3), Else: g.block(deep-1, 3)}}
	case n < 7 && deep > 0:
		return []tree.Stmt{{Kind: "while", E: e, Then: g.block(deep-1, 3)}}
	case n < 9 && deep > 0 && len(g.vars) > 0:
		return []tree.Stmt{g.counted(g.vars[g.Intn(len(g.vars))], deep)}
	case n == 9 && g.Intn(3) == 0:
		return []tree.Stmt{{Kind: "return", E: e}}
	}
	return []tree.Stmt{{Kind: "print", E: e}}
}

// counted: a loop that mostly comes to its end.
func (g *grower) counted(v string, deep int) tree.Stmt {
	x := tree.Expr{Kind: "name", Name: v}
	some := tree.Expr{Kind: "two", Name: "<", Kids: []tree.Expr{{Kind: "num"}, x}}
	less := tree.Expr{Kind: "two", Name: "-", Kids: []tree.Expr{x, {Kind: "num", Num: 1}}}
	return tree.Stmt{Kind: "while", E: some, Then: append(g.block(deep-1, 2), tree.Stmt{Kind: "set", Name: v, E: less})}
}

func (g *grower) program() []tree.Fun {
	g.funs = make([]tree.Fun, 1+g.Intn(4))
	for i := range g.funs {
		g.funs[i] = tree.Fun{Name: "f" + string(rune('a'+i)), Params: slices.Clone([]string{"a", "b", "c", "d"}[:g.Intn(5)])}
	}
	l := slices.Clone(g.funs)
	for i := range l {
		g.at, g.vars, g.count = i, slices.Clone(l[i].Params), 0
		l[i].Body = g.block(3, 6)
	}
	return l
}

// P60 to P62: programs by chance, with ticks from none to all, are cut off pieces of one trace.
func TestGrown(t *testing.T) {
	g := &grower{Rand: rand.New(rand.NewSource(6))}
	seen := map[string]int{}
	for range 3000 {
		l := g.program()
		f := l[g.Intn(len(l))]
		args := make([]int, len(f.Params))
		for i := range args {
			args[i] = g.Intn(8) - 2
		}
		trace := traced(l, f.Name, args)
		last := cut(trace, api.MaxTicks)
		for _, ticks := range []int{0, 1, 2, 3, 4, 5, 7, 12, g.Intn(100), last.Ticks - 1, last.Ticks, last.Ticks + 1, g.Intn(last.Ticks + 1), api.MaxTicks} {
			ticks = min(ticks, api.MaxTicks)
			want := cut(trace, ticks)
			o, err := run.Run(l, f.Name, args, ticks)
			if err != nil || !same(o, want) {
				t.Fatalf("%s of %v with %d ticks: %s, %v; want %s\n%s", f.Name, args, ticks, told(o), err, told(want), show.Program(l))
			}
		}
		seen[last.How]++
		if last.Ticks > 3 && len(last.Out) > 3 {
			seen["long "+last.How]++
		}
	}
	for _, how := range []string{"done", "deep", "tired", "loud", "long done", "long deep"} {
		if seen[how] < 50 {
			t.Errorf("too few programs that are %s: %v", how, seen)
		}
	}
}

// P62: with one more tick it does the same, and goes on.
func TestMoreTicks(t *testing.T) {
	for _, s := range []string{
		"fn main(a) { var s = 0; while a { s = s + a; print s; a = a - 1; } return s; }",
		"fn main(a) { print a; return main(a + 1); }",
		"fn f(n) { print n; if n < 2 { return n; } return f(n - 1) + f(n - 2); } fn main(n) { return f(n); }",
		"fn main(a) { while 1 { print a; a = a + 1; } }",
	} {
		p := parse(t, s)
		before, err := run.Run(p, "main", []int{9}, 0)
		if err != nil || !same(before, api.Outcome{How: "tired"}) {
			t.Errorf("%s: %s, %v", s, told(before), err)
		}
		for ticks := 1; ticks <= 1200; ticks++ {
			o, err := run.Run(p, "main", []int{9}, ticks)
			goesOn := o.Ticks == ticks && len(o.Out) >= len(before.Out) && slices.Equal(o.Out[:len(before.Out)], before.Out)
			if err != nil || before.How != "tired" && !same(o, before) || before.How == "tired" && !goesOn {
				t.Fatalf("%s with %d ticks: %s, %v; before it was %s", s, ticks, told(o), err, told(before))
			}
			before = o
		}
	}
}

// P1: trees that are some hundred deep, in as many calls as there may be.
func TestDeepTrees(t *testing.T) {
	e := tree.Expr{Kind: "call", Name: "main", Kids: []tree.Expr{{Kind: "name", Name: "a"}}}
	for range 300 {
		e = tree.Expr{Kind: "one", Name: "-", Kids: []tree.Expr{e}}
	}
	body := []tree.Stmt{{Kind: "print", E: e}}
	for range 300 {
		body = []tree.Stmt{{Kind: "if", E: tree.Expr{Kind: "num", Num: 1}, Then: body}}
	}
	o, err := run.Run([]tree.Fun{{Name: "main", Params: []string{"a"}, Body: body}}, "main", []int{1}, 100)
	if err != nil || told(o) != "deep 0 41 []" {
		t.Errorf("%s, %v", told(o), err)
	}
}

// P3: what lies behind a list's length is neither read nor written.
func TestBehindLength(t *testing.T) {
	all := parse(t, "fn main(a, b) { print a; print b; } fn f() { return x; }")
	body := all[0].Body
	all[0].Params, all[0].Body = all[0].Params[:1], body[:1]
	args := []int{4, 5}
	o, err := run.Run(all[:1], "main", args[:1], 9)
	if err != nil || told(o) != "done 0 1 [4]" {
		t.Errorf("%s, %v", told(o), err)
	}
	if args[1] != 5 || body[1].E.Name != "b" || all[0].Params[:2][1] != "b" || all[1].Name != "f" {
		t.Error("it was written")
	}
}

// P2, P4: what is handed over is only read; the same comes of the same, in new memory.
func TestMemory(t *testing.T) {
	s := "fn f(a) { a = a + 1; print a; return a; } fn main(a, b) { a = f(b); b = f(a); print a * b; }"
	p, args := parse(t, s), []int{1, 2}
	first, err := run.Run(p, "main", args, 9)
	if err != nil || told(first) != "done 0 3 [3 4 12]" {
		t.Errorf("%s, %v", told(first), err)
	}
	if !reflect.DeepEqual(p, parse(t, s)) || !slices.Equal(args, []int{1, 2}) {
		t.Error("what was handed over was changed")
	}
	for i := range first.Out {
		first.Out[i] = -1
	}
	again, err := run.Run(p, "main", args, 9)
	if err != nil || told(again) != "done 0 3 [3 4 12]" {
		t.Errorf("again: %s, %v", told(again), err)
	}
	args[0], p[0].Body[0].E.Kids[1].Num = 9, 9
	if told(again) != "done 0 3 [3 4 12]" {
		t.Error("an outcome changed with what it was made of")
	}
}
