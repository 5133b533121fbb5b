package check_test

import (
	"errors"
	"math"
	"math/rand"
	"reflect"
	"slices"
	"strconv"
	"strings"
	"testing"

	"kelpforest/api"
	"kelpforest/check"
	"kelpforest/lex"
	"kelpforest/show"
	"kelpforest/tree"
	"kelpforest/val"
)

func num(n int) tree.Expr     { return tree.Expr{Kind: "num", Num: n} }
func name(s string) tree.Expr { return tree.Expr{Kind: "name", Name: s} }
func one(op string, kids ...tree.Expr) tree.Expr {
	return tree.Expr{Kind: "one", Name: op, Kids: kids}
}
func two(op string, kids ...tree.Expr) tree.Expr {
	return tree.Expr{Kind: "two", Name: op, Kids: kids}
}
func call(f string, kids ...tree.Expr) tree.Expr {
	return tree.Expr{Kind: "call", Name: f, Kids: kids}
}
func printed(e tree.Expr) tree.Stmt { return tree.Stmt{Kind: "print", E: e} }

func tokens(t *testing.T, s string) []lex.Token {
	t.Helper()
	l, err := lex.Read(s)
	if err != nil {
		t.Fatalf("Read(%q): %v", s, err)
	}
	return l
}

func parse(t *testing.T, s string) []tree.Fun {
	t.Helper()
	p, err := tree.Parse(tokens(t, s))
	if err != nil {
		t.Fatalf("Parse(%q): %v", s, err)
	}
	return p
}

func well(t *testing.T, l []tree.Fun) {
	t.Helper()
	if err := check.Program(l); err != nil {
		t.Errorf("%v: %v; want no error\n%s", l, err, show.Program(l))
	}
}

// fault: that a program is told as an error at a function.
func fault(t *testing.T, l []tree.Fun, at int, want error) {
	t.Helper()
	err := check.Program(l)
	f, ok := err.(*api.Fault)
	if !ok || f.At != at || f.Err != want {
		t.Errorf("%v: %v; want %v at %d\n%s", l, err, want, at, show.Program(l))
		if ok {
			t.Errorf("it is told at %d", f.At)
		}
	}
}

// told: that a program is well, if want is nil, or is told as that error at a function.
func told(t *testing.T, l []tree.Fun, at int, want error) {
	t.Helper()
	if want == nil {
		well(t, l)
		return
	}
	fault(t, l, at, want)
}

// vars: so many of them.
func vars(n int) string {
	s := ""
	for i := range n {
		s += "var v" + strconv.Itoa(i) + " = 0; "
	}
	return s
}

// P50: programs that are well.
func TestWell(t *testing.T) {
	well(t, nil)
	well(t, []tree.Fun{})
	for _, s := range []string{
		"fn f() { }",
		"fn abcdefgh(a, b1, z9999999, fnn) { }",
		"fn main(a) { var s = 0; while a { s = s + a; a = a - 1; } return s; }",
		"fn f(a, b, c, d) { return f(a, b, c, d); }",
		"fn f() { return g(); } fn g() { return h(f(), 1); } fn h(a, b) { return a + b; }",
		"fn f(f) { return f(f); }",
		"fn f() { var f = f(); var g = f; f = f() + f + g; }",
		"fn f(a) { } fn g(a) { var b = a; } fn h() { var a = 1; var b = 2; }",
		"fn f() { " + vars(12) + "}",
		"fn f(a, b, c, d) { " + vars(8) + "}",
		"fn f() { if 1 { " + vars(6) + "} else { var a = 1; var b = 1; var c = 1; while a { var d = b; var e = c; var g = d; } } }",
		"fn f() { return 1; return 2; print 3; var a = 4; print a; }",
		"fn f(a) { if a { var b = a; while b { var c = b; if c { b = c; a = b; } else { c = a; } } b = 1; } else { var d = a; d = d; } a = 2; }",
		"fn f() { if 0 { } else { var a = 1; print a; } }",
		"fn f() { return 999999999999999999; }",
	} {
		well(t, parse(t, s))
	}
	well(t, []tree.Fun{{Name: "f", Body: []tree.Stmt{{Kind: "return", E: num(math.MaxInt)}}}})
	well(t, []tree.Fun{{Name: "f", Params: []string{}, Body: []tree.Stmt{{Kind: "print", E: tree.Expr{Kind: "num", Kids: []tree.Expr{}}, Then: []tree.Stmt{}, Else: []tree.Stmt{}}}}})
}

// P50: MaxFuns are well, and one more is told without a place, whatever else is wrong.
func TestManyFunctions(t *testing.T) {
	var l []tree.Fun
	for i := range api.MaxFuns {
		l = append(l, tree.Fun{Name: "f" + strconv.Itoa(i)})
		well(t, l)
	}
	for _, more := range [][]tree.Fun{append(slices.Clone(l), tree.Fun{Name: "f"}), append(slices.Clone(l), tree.Fun{}), make([]tree.Fun, 9), make([]tree.Fun, 100)} {
		if err := check.Program(more); err != api.ErrFull {
			t.Errorf("%d functions: %v", len(more), err)
		}
	}
	fault(t, make([]tree.Fun, 8), 0, api.ErrName)
}

// noNames: what lex reads as no name, or not as one alone.
func noNames() []string {
	return []string{"", " ", "A", "1", "1a", "a b", " a", "a ", "a\n", "\ta", "a;", "a_b", "é", "aé", "a\x00", "-", "+", "(", "=", "fn", "var", "if", "else", "while", "return", "print", "ninechars", "a12345678", strings.Repeat("a", 5000), strings.Repeat(" ", 5000)}
}

// P50: a function's Name, or a parameter's, that is no name.
func TestNoName(t *testing.T) {
	for _, s := range noNames() {
		fault(t, []tree.Fun{{Name: s}}, 0, api.ErrName)
		fault(t, []tree.Fun{{Name: "g"}, {Name: s}}, 1, api.ErrName)
		fault(t, []tree.Fun{{Name: "f", Params: []string{s}}}, 0, api.ErrName)
		fault(t, []tree.Fun{{Name: "f", Params: []string{"a", "b", "c", s}}}, 0, api.ErrName)
		fault(t, []tree.Fun{{Name: "f", Params: []string{"a", "a", "a", "a", "a", s}}}, 0, api.ErrName)
	}
}

// P50: what is told of texts that can be parsed.
func TestWrong(t *testing.T) {
	for _, c := range []struct {
		text string
		at   int
		want error
	}{
		{"fn f() { } fn f() { }", 1, api.ErrExist},
		{"fn f() { } fn g() { } fn h() { } fn g(a) { }", 3, api.ErrExist},
		{"fn f(a, b, c, d, e) { }", 0, api.ErrArgs},
		{"fn f(a, a, a, a, a) { }", 0, api.ErrArgs},
		{"fn f() { } fn g(a, b, c, d, e) { }", 1, api.ErrArgs},
		{"fn f(a, a) { }", 0, api.ErrExist},
		{"fn f(a, b, c, a) { }", 0, api.ErrExist},
		{"fn f() { return a; }", 0, api.ErrNone},
		{"fn f() { return f; }", 0, api.ErrNone},
		{"fn f(a) { } fn g() { return a; }", 1, api.ErrNone},
		{"fn f() { var a = 1; } fn g() { return a; }", 1, api.ErrNone},
		{"fn f() { print a; var a = 1; }", 0, api.ErrNone},
		{"fn f() { var a = a; }", 0, api.ErrNone},
		{"fn f() { a = 1; }", 0, api.ErrNone},
		{"fn f() { a = 1; var a = 1; }", 0, api.ErrNone},
		{"fn f() { f = 1; }", 0, api.ErrNone},
		{"fn f() { if a { } }", 0, api.ErrNone},
		{"fn f() { while a { } }", 0, api.ErrNone},
		{"fn f() { while a { var a = 1; } }", 0, api.ErrNone},
		{"fn f() { if 1 { } else { a = 1; } }", 0, api.ErrNone},
		{"fn f() { if 1 { var a = 1; } else { print a; } }", 0, api.ErrNone},
		{"fn f() { if 1 { var a = 1; } return a; }", 0, api.ErrNone},
		{"fn f() { if 1 { } else { var a = 1; } return a; }", 0, api.ErrNone},
		{"fn f() { while 1 { var a = 1; } a = 2; }", 0, api.ErrNone},
		{"fn f() { while 1 { if 1 { var a = 1; a = 2; } a = 3; } }", 0, api.ErrNone},
		{"fn f() { return g(); }", 0, api.ErrNone},
		{"fn f(a) { return a(); }", 0, api.ErrNone},
		{"fn f() { return f(1); }", 0, api.ErrArgs},
		{"fn f(a, b) { return f(1); }", 0, api.ErrArgs},
		{"fn f(a) { return f(); }", 0, api.ErrArgs},
		{"fn f() { return g(1, 2); } fn g(a) { }", 0, api.ErrArgs},
		{"fn g() { } fn f() { return 1 + -g(1); }", 1, api.ErrArgs},
		{"fn f(a) { var a = 1; }", 0, api.ErrExist},
		{"fn f() { var a = 1; var a = 2; }", 0, api.ErrExist},
		{"fn f() { var a = 1; if a { var a = 2; } }", 0, api.ErrExist},
		{"fn f() { if 1 { var a = 1; } else { var a = 2; } }", 0, api.ErrExist},
		{"fn f() { while 1 { while 1 { var a = 1; } } var a = 2; }", 0, api.ErrExist},
		{"fn f(a) { if 1 { var a = 1; } }", 0, api.ErrExist},
		{"fn f() { " + vars(13) + "}", 0, api.ErrFull},
		{"fn f(a, b, c, d) { " + vars(9) + "}", 0, api.ErrFull},
		{"fn f() { if 1 { " + vars(12) + "} var a = 1; }", 0, api.ErrFull},
		{"fn f() { " + vars(12) + "var v11 = 1; }", 0, api.ErrExist},
		{"fn f() { " + vars(12) + "var a = a; }", 0, api.ErrNone},
	} {
		fault(t, parse(t, c.text), c.at, c.want)
	}
}

// P50: of two functions of a name, a call means the first one, wherever it stands.
func TestCallOfTwo(t *testing.T) {
	fault(t, parse(t, "fn f() { return g(1); } fn g(a) { } fn g() { }"), 2, api.ErrExist)
	fault(t, parse(t, "fn f() { return g(); } fn g(a) { } fn g() { }"), 0, api.ErrArgs)
	fault(t, parse(t, "fn g(a) { } fn f() { return g(1); } fn g() { }"), 2, api.ErrExist)
	fault(t, parse(t, "fn g(a) { } fn f() { return g(); } fn g() { }"), 1, api.ErrArgs)
}

// P50: a call of a function that is itself not well is well.
func TestCallOfWrong(t *testing.T) {
	fault(t, parse(t, "fn f() { return g(1, 2, 3, 4, 5); } fn g(a, b, c, d, e) { }"), 1, api.ErrArgs)
	fault(t, parse(t, "fn f() { return g(1, 2); } fn g(a, a) { }"), 1, api.ErrExist)
	fault(t, parse(t, "fn f() { return g(); } fn g() { return x; }"), 1, api.ErrNone)
}

// P50: every kind of statement with every field, as its kind has it or not.
func TestStatementShape(t *testing.T) {
	full := []tree.Stmt{printed(num(1))}
	for _, kind := range []string{"var", "set", "if", "while", "return", "print", "", "Var", "else", "fn", "num", "call", "print "} {
		known := slices.Contains([]string{"var", "set", "if", "while", "return", "print"}, kind)
		named := kind == "var" || kind == "set"
		for _, x := range append(noNames(), "x") {
			for _, then := range [][]tree.Stmt{nil, full} {
				for _, other := range [][]tree.Stmt{nil, full} {
					nameFits := named && x == "x" || !named && x == ""
					thenFits := kind == "if" || kind == "while" || len(then) == 0
					elseFits := kind == "if" || len(other) == 0
					s := tree.Stmt{Kind: kind, Name: x, E: num(1), Then: then, Else: other}
					var want error
					if !known || !nameFits || !thenFits || !elseFits {
						want = api.ErrShape
					} else if kind == "set" {
						want = api.ErrNone
					}
					told(t, []tree.Fun{{Name: "f", Body: []tree.Stmt{s}}}, 0, want)
				}
			}
		}
	}
}

// P50: every kind of expression with every field, as its kind has it or not.
func TestExpressionShape(t *testing.T) {
	names := append(append(noNames(), "a", "f", "!", "~", "--", "&&", ">", ">="), val.Ops()...)
	for _, kind := range []string{"num", "name", "call", "one", "two", "", "Num", "three", "var", "set", "op"} {
		for _, x := range names {
			for _, n := range []int{0, 1, -1, math.MinInt, math.MaxInt} {
				for kids := range 4 {
					e := tree.Expr{Kind: kind, Num: n, Name: x, Kids: slices.Repeat([]tree.Expr{num(1)}, kids)}
					body := []tree.Stmt{printed(e)}
					told(t, []tree.Fun{{Name: "g"}, {Name: "f", Params: []string{"a", "b"}, Body: body}}, 1, shape(e))
				}
			}
		}
	}
}

// shape: what is told of an expression whose kids are well, in a function f of a and b.
func shape(e tree.Expr) error {
	isName := e.Name == "a" || e.Name == "f"
	is := e.Num == 0
	switch e.Kind {
	case "num":
		is = e.Num >= 0 && e.Name == "" && len(e.Kids) == 0
	case "name":
		is = is && isName && len(e.Kids) == 0
	case "call":
		is = is && isName
	case "one":
		is = is && (e.Name == "-" || e.Name == "!") && len(e.Kids) == 1
	case "two":
		is = is && slices.Contains(val.Ops(), e.Name) && len(e.Kids) == 2
	default:
		is = false
	}
	switch {
	case !is:
		return api.ErrShape
	case e.Kind == "name" && e.Name == "f", e.Kind == "call" && e.Name == "a":
		return api.ErrNone
	case e.Kind == "call" && len(e.Kids) != 2:
		return api.ErrArgs
	}
	return nil
}

// P50: of a function's own faults, the one that is named first is told.
func TestFunctionOrder(t *testing.T) {
	type change struct {
		want error
		do   func(f *tree.Fun)
	}
	changes := []change{
		{api.ErrName, func(f *tree.Fun) { f.Name = "" }},
		{api.ErrName, func(f *tree.Fun) { f.Params = append(f.Params, "") }},
		{api.ErrExist, func(f *tree.Fun) { f.Name = "other" }},
		{api.ErrArgs, func(f *tree.Fun) { f.Params = append(f.Params, "x1", "x2", "x3", "x4", "x5") }},
		{api.ErrExist, func(f *tree.Fun) { f.Params = append(f.Params, "a") }},
		{api.ErrShape, func(f *tree.Fun) { f.Body = append([]tree.Stmt{{}}, f.Body...) }},
		{api.ErrNone, func(f *tree.Fun) { f.Body = append([]tree.Stmt{printed(name("none"))}, f.Body...) }},
	}
	base := func() tree.Fun {
		return tree.Fun{Name: "f", Params: []string{"a"}, Body: []tree.Stmt{printed(name("a"))}}
	}
	for i, x := range changes {
		for _, y := range changes[i:] {
			f := base()
			y.do(&f)
			x.do(&f)
			fault(t, []tree.Fun{{Name: "other"}, f, {Name: "f"}}, 1, x.want)
			fault(t, []tree.Fun{{Name: "other"}, f, {}}, 1, x.want)
		}
	}
}

type wrongExpr struct {
	e    tree.Expr
	want error
}

// wrongExprs in a function without variables, beside a function f of one.
func wrongExprs() []wrongExpr {
	return []wrongExpr{
		{tree.Expr{}, api.ErrShape},
		{num(-1), api.ErrShape},
		{one("+", num(1)), api.ErrShape},
		{two("+", num(1)), api.ErrShape},
		{two("!", name("none"), name("none")), api.ErrShape},
		{tree.Expr{Kind: "call", Num: 1, Name: "none", Kids: []tree.Expr{name("none")}}, api.ErrShape},
		{name("none"), api.ErrNone},
		{call("none"), api.ErrNone},
		{call("none", call("f", num(1))), api.ErrNone},
		{call("f"), api.ErrArgs},
		{call("f", num(1), num(2)), api.ErrArgs},
		{call("f", call("f", num(1), num(2))), api.ErrArgs},
		{call("none", call("f")), api.ErrArgs},
		{call("f", num(1), name("none")), api.ErrNone},
		{call("none", num(-1)), api.ErrShape},
		{call("f", name("none"), tree.Expr{}), api.ErrNone},
		{two("+", call("f"), tree.Expr{}), api.ErrArgs},
	}
}

// P50: kids are asked from the left, each with all that is in it, and ahead of what is asked of a name or a call.
func TestExpressionOrder(t *testing.T) {
	in := func(e tree.Expr) []tree.Fun {
		return []tree.Fun{{Name: "f", Params: []string{"a"}}, {Name: "g", Body: []tree.Stmt{printed(e)}}}
	}
	for _, x := range wrongExprs() {
		fault(t, in(x.e), 1, x.want)
		fault(t, in(one("-", one("!", x.e))), 1, x.want)
		fault(t, in(call("f", x.e)), 1, x.want)
		fault(t, in(call("none", num(1), x.e)), 1, x.want)
		fault(t, in(two("~", x.e, x.e)), 1, api.ErrShape)
		fault(t, in(call("No", x.e)), 1, api.ErrShape)
		for _, y := range wrongExprs() {
			fault(t, in(two("*", x.e, y.e)), 1, x.want)
			fault(t, in(two("*", two("-", num(1), x.e), y.e)), 1, x.want)
			fault(t, in(call("none", x.e, num(1), y.e)), 1, x.want)
		}
	}
}

// wrongStmts: each with the error that is told of it, in a function that has a variable a and, of an ended block, b.
func wrongStmts() []struct {
	s    tree.Stmt
	want error
} {
	type wrong = struct {
		s    tree.Stmt
		want error
	}
	l := []wrong{
		{tree.Stmt{}, api.ErrShape},
		{tree.Stmt{Kind: "print", Name: "a", E: name("none")}, api.ErrShape},
		{tree.Stmt{Kind: "set", Name: "if", E: name("none")}, api.ErrShape},
		{tree.Stmt{Kind: "var", Name: "c", E: name("none"), Then: []tree.Stmt{printed(num(1))}}, api.ErrShape},
		{tree.Stmt{Kind: "while", E: name("none"), Else: []tree.Stmt{printed(num(1))}}, api.ErrShape},
		{tree.Stmt{Kind: "var", Name: "a", E: num(1)}, api.ErrExist},
		{tree.Stmt{Kind: "var", Name: "b", E: num(1)}, api.ErrExist},
		{tree.Stmt{Kind: "set", Name: "b", E: num(1)}, api.ErrNone},
		{tree.Stmt{Kind: "set", Name: "c", E: num(1)}, api.ErrNone},
	}
	for _, x := range wrongExprs() {
		for _, kind := range []string{"if", "while", "return", "print"} {
			l = append(l, wrong{tree.Stmt{Kind: kind, E: x.e}, x.want})
		}
		l = append(l, wrong{tree.Stmt{Kind: "var", Name: "a", E: x.e}, x.want}, wrong{tree.Stmt{Kind: "set", Name: "c", E: x.e}, x.want})
	}
	return l
}

// P50: statements are asked in order, and of each its own ahead of its expression, that ahead of its Then, and that ahead of its Else.
func TestStatementOrder(t *testing.T) {
	in := func(l ...tree.Stmt) []tree.Fun {
		ended := tree.Stmt{Kind: "if", E: num(1), Then: []tree.Stmt{{Kind: "var", Name: "b", E: num(1)}}}
		return []tree.Fun{{Name: "f", Params: []string{"a"}}, {Name: "g", Params: []string{"a"}, Body: append([]tree.Stmt{ended}, l...)}}
	}
	well(t, in())
	list := wrongStmts()
	for _, x := range list {
		inner := []tree.Stmt{printed(name("a")), x.s}
		fault(t, in(inner...), 1, x.want)
		fault(t, in(tree.Stmt{Kind: "print", E: num(1), Then: inner}), 1, api.ErrShape)
		for _, y := range list {
			fault(t, in(x.s, y.s), 1, x.want)
			fault(t, in(tree.Stmt{Kind: "if", E: num(1), Then: inner, Else: []tree.Stmt{y.s}}, y.s), 1, x.want)
			fault(t, in(tree.Stmt{Kind: "if", E: num(1), Else: inner}, y.s), 1, x.want)
			fault(t, in(tree.Stmt{Kind: "while", E: num(1), Then: inner}, y.s), 1, x.want)
		}
		for _, y := range wrongExprs() {
			fault(t, in(tree.Stmt{Kind: "if", E: y.e, Then: inner, Else: inner}), 1, y.want)
			fault(t, in(tree.Stmt{Kind: "while", E: y.e, Then: inner}), 1, y.want)
		}
	}
}

// scan of a program's tokens, from the first to the last: what is told comes in this order, too.
type scan struct {
	list   []lex.Token
	params map[string]int
	known  map[string]bool
	blocks [][]string
	given  string
	isVar  bool
	open   []opened
}

// opened: a parenthesis, of a call or of none, that is not closed yet.
type opened struct {
	name string
	args int
}

func (s *scan) here(x string) bool {
	return slices.ContainsFunc(s.blocks, func(b []string) bool { return slices.Contains(b, x) })
}

func (s *scan) declare(x string) error {
	switch {
	case s.known[x]:
		return api.ErrExist
	case len(s.known) == api.MaxVars:
		return api.ErrFull
	}
	s.known[x] = true
	last := len(s.blocks) - 1
	s.blocks[last] = append(s.blocks[last], x)
	return nil
}

// head of a function: `fn name (` with what goes on up to `)`; i is behind it.
func (s *scan) head(i int, ahead map[string]bool) (int, error) {
	f := s.list[i+1].Text
	s.known, s.blocks = map[string]bool{}, [][]string{nil}
	var params []string
	for i += 3; s.list[i].Text != ")"; i++ {
		if s.list[i].Kind == "name" {
			params = append(params, s.list[i].Text)
		}
	}
	if ahead[f] {
		return i, api.ErrExist
	}
	ahead[f] = true
	if len(params) > api.MaxParams {
		return i, api.ErrArgs
	}
	for _, p := range params {
		if err := s.declare(p); err != nil {
			return i, err
		}
	}
	return i, nil
}

func (s *scan) close() error {
	last := s.open[len(s.open)-1]
	s.open = s.open[:len(s.open)-1]
	if last.name == "" {
		return nil
	}
	n, ok := s.params[last.name]
	if !ok {
		return api.ErrNone
	}
	if n != last.args {
		return api.ErrArgs
	}
	return nil
}

func (s *scan) end() error {
	x := s.given
	s.given = ""
	switch {
	case x == "":
		return nil
	case s.isVar:
		return s.declare(x)
	case !s.here(x):
		return api.ErrNone
	}
	return nil
}

// token of a body.
func (s *scan) token(i int) error {
	text, next := s.list[i].Text, s.list[min(i+1, len(s.list)-1)].Text
	switch {
	case text == "{":
		s.blocks = append(s.blocks, nil)
	case text == "}":
		s.blocks = s.blocks[:len(s.blocks)-1]
	case text == ";":
		return s.end()
	case text == "(" && s.list[i-1].Kind == "name":
		c := opened{name: s.list[i-1].Text}
		if next != ")" {
			c.args = 1
		}
		s.open = append(s.open, c)
	case text == "(":
		s.open = append(s.open, opened{})
	case text == ",":
		s.open[len(s.open)-1].args++
	case text == ")":
		return s.close()
	case s.list[i].Kind == "name" && next == "=":
		s.given, s.isVar = text, s.list[i-1].Text == "var"
	case s.list[i].Kind == "name" && next != "(" && !s.here(text):
		return api.ErrNone
	}
	return nil
}

// scanned: what is told of a program by its tokens.
func scanned(l []tree.Fun, list []lex.Token) (int, error) {
	s := &scan{list: list, params: map[string]int{}}
	for _, f := range slices.Backward(l) {
		s.params[f.Name] = len(f.Params)
	}
	ahead := map[string]bool{}
	at := -1
	for i := 0; i < len(list); i++ {
		var err error
		if list[i].Text == "fn" {
			at++
			i, err = s.head(i, ahead)
		} else {
			err = s.token(i)
		}
		if err != nil {
			return at, err
		}
	}
	return 0, nil
}

// grower of programs by chance that are mostly well.
type grower struct {
	*rand.Rand
	slips int // of a thousand choices
	funs  []tree.Fun
	here  []string
	count int
}

func (g *grower) slip() bool { return g.Intn(1000) < g.slips }

func (g *grower) any() string { return []string{"a", "b", "c", "v1", "v2", "f0", "zz"}[g.Intn(7)] }

func (g *grower) variable() string {
	if g.slip() || len(g.here) == 0 {
		return g.any()
	}
	return g.here[g.Intn(len(g.here))]
}

func (g *grower) expr(deep int) tree.Expr {
	switch kind := g.Intn(6); {
	case len(g.here) == 0 && !g.slip() && (deep == 0 || kind == 0), kind == 1:
		return num(g.Intn(100))
	case deep == 0 || kind == 0:
		return name(g.variable())
	case kind == 2:
		return one([]string{"-", "!"}[g.Intn(2)], g.expr(deep-1))
	case kind == 3:
		return g.called(deep)
	}
	return two(val.Ops()[g.Intn(len(val.Ops()))], g.expr(deep-1), g.expr(deep-1))
}

func (g *grower) called(deep int) tree.Expr {
	f := g.funs[g.Intn(len(g.funs))]
	e, n := call(f.Name), len(f.Params)
	if g.slip() {
		n = g.Intn(5)
	}
	if g.slip() {
		e.Name = g.any()
	}
	for range n {
		e.Kids = append(e.Kids, g.expr(deep-1))
	}
	return e
}

func (g *grower) block(deep int) []tree.Stmt {
	size := len(g.here)
	var l []tree.Stmt
	for range g.Intn(5) {
		l = append(l, g.stmt(deep))
	}
	g.here = g.here[:size]
	return l
}

func (g *grower) stmt(deep int) tree.Stmt {
	s := tree.Stmt{Kind: []string{"var", "var", "set", "if", "while", "return", "print"}[g.Intn(7)], E: g.expr(2)}
	if s.Kind == "set" && len(g.here) == 0 || s.Kind == "var" && g.count >= api.MaxVars && !g.slip() {
		s.Kind = "print"
	}
	switch s.Kind {
	case "var":
		s.Name = "v" + strconv.Itoa(g.count)
		if g.slip() {
			s.Name = g.any()
		}
		g.here = append(g.here, s.Name)
		g.count++
	case "set":
		s.Name = g.variable()
	case "if", "while":
		if deep > 0 {
			s.Then = g.block(deep - 1)
		}
		if deep > 0 && s.Kind == "if" {
			s.Else = g.block(deep - 1)
		}
	}
	return s
}

// row of variables, so that some functions have nearly too many.
func (g *grower) row() []tree.Stmt {
	var l []tree.Stmt
	for size := g.Intn(2) * g.Intn(api.MaxVars+1); g.count < size; g.count++ {
		s := tree.Stmt{Kind: "var", Name: "v" + strconv.Itoa(g.count), E: num(0)}
		g.here = append(g.here, s.Name)
		l = append(l, s)
	}
	return l
}

// program: heads ahead of all bodies, for calls go also to functions behind.
func (g *grower) program() []tree.Fun {
	g.funs = nil
	for i := range 1 + g.Intn(4) {
		f := tree.Fun{Name: "f" + strconv.Itoa(i), Params: []string{"a", "b", "c", "d"}[:g.Intn(5)]}
		if g.slip() {
			f.Name = g.any()
		}
		if g.slip() {
			f.Params = append([]string{g.any()}, f.Params...)
		}
		g.funs = append(g.funs, f)
	}
	for i := range g.funs {
		g.here, g.count = slices.Clone(g.funs[i].Params), len(g.funs[i].Params)
		g.funs[i].Body = append(g.row(), g.block(3)...)
	}
	return g.funs
}

// fits: is the program's text one that can be read?
func fits(l []tree.Fun) ([]lex.Token, bool) {
	list, err := lex.Read(show.Program(l))
	return list, err == nil
}

// P50: programs by chance are told as by their tokens.
func TestGrown(t *testing.T) {
	found := map[error]int{}
	for seed := range 20 {
		g := &grower{Rand: rand.New(rand.NewSource(int64(seed))), slips: seed * 3}
		for range 300 {
			l := g.program()
			list, ok := fits(l)
			if !ok {
				continue
			}
			at, want := scanned(l, list)
			told(t, l, at, want)
			if seed == 0 {
				well(t, l)
			}
			found[want]++
		}
	}
	for _, e := range []error{nil, api.ErrExist, api.ErrNone, api.ErrArgs, api.ErrFull} {
		if found[e] < 20 {
			t.Errorf("%v was told %d times only", e, found[e])
		}
	}
}

// plainly: an expression with a sum for each call, of its arguments.
func plainly(e tree.Expr) tree.Expr {
	var kids []tree.Expr
	for _, k := range e.Kids {
		kids = append(kids, plainly(k))
	}
	if e.Kind != "call" {
		e.Kids = kids
		return e
	}
	sum := num(0)
	for _, k := range kids {
		sum = tree.Expr{Kind: "two", Name: "+", Kids: []tree.Expr{sum, k}}
	}
	return sum
}

func plainBlock(l []tree.Stmt) []tree.Stmt {
	var to []tree.Stmt
	for _, s := range l {
		s.E, s.Then, s.Else = plainly(s.E), plainBlock(s.Then), plainBlock(s.Else)
		to = append(to, s)
	}
	return to
}

// P73, P3: a function alone is told as one without calls, but bare.
func TestAlone(t *testing.T) {
	found := map[error]int{}
	for seed := range 20 {
		g := &grower{Rand: rand.New(rand.NewSource(int64(seed))), slips: seed * 3}
		for range 200 {
			for _, f := range g.program() {
				plain := f
				plain.Body = plainBlock(f.Body)
				err, want := check.Alone(f), check.Program([]tree.Fun{plain})
				if err != errors.Unwrap(want) {
					t.Fatalf("%T %v, want %v alone\n%s", err, err, want, show.Program([]tree.Fun{f}))
				}
				found[errors.Unwrap(want)]++
			}
		}
	}
	for _, e := range []error{nil, api.ErrExist, api.ErrNone, api.ErrArgs, api.ErrFull} {
		if found[e] < 20 {
			t.Errorf("%v was told %d times only", e, found[e])
		}
	}
}

// P52: what is well stays well with one more function of a new name, wherever it stands.
func TestOneMore(t *testing.T) {
	g := &grower{Rand: rand.New(rand.NewSource(50))}
	for range 500 {
		l := g.program()
		well(t, l)
		g.here, g.count = []string{"a", "b"}, 2
		more := tree.Fun{Name: "more", Params: []string{"a", "b"}, Body: g.block(2)}
		for i := range len(l) + 1 {
			well(t, slices.Insert(slices.Clone(l), i, more))
		}
	}
}

func same(t *testing.T, what string, f tree.Fun, got, want []string) {
	t.Helper()
	if !slices.Equal(got, want) {
		t.Errorf("%s(%v) = %q, want %q", what, f, got, want)
	}
}

// P51: variables and calls of functions that are well, or not.
func TestVarsAndCalls(t *testing.T) {
	for _, c := range []struct{ text, vars, calls string }{
		{"fn f() { }", "", ""},
		{"fn f(b, a) { }", "b a", ""},
		{"fn f(a) { a = 1; print a; return b; }", "a", ""},
		{"fn f(z, a) { var c = 1; var b = 2; }", "z a c b", ""},
		{"fn f() { if 1 { var d = 1; while 2 { var c = 1; } } else { var b = 1; } var a = 1; }", "d c b a", ""},
		{"fn f(a, a) { var a = 1; if 1 { var b = 1; } else { var b = 2; } }", "a a a b b", ""},
		{"fn f() { " + vars(14) + "}", "v0 v1 v2 v3 v4 v5 v6 v7 v8 v9 v10 v11 v12 v13", ""},
		{"fn f() { return f(); }", "", "f"},
		{"fn f() { print z(y(x()), w(v())); }", "", "x y v w z"},
		{"fn f() { print c() + b() * a(); }", "", "c b a"},
		{"fn f() { print -c(); print !b(-a()); }", "", "c a b"},
		{"fn f() { print g(g(h(g()))); print h(); print i(); }", "", "g h i"},
		{"fn f() { var x = e(); x = d(); if c() { print b(); } else { print a(); } while g() { return h(); } return i(); }", "x", "e d c b a g h i"},
	} {
		l := parse(t, c.text)
		same(t, "Vars", l[0], check.Vars(l[0]), strings.Fields(c.vars))
		same(t, "Calls", l[0], check.Calls(l[0]), strings.Fields(c.calls))
	}
}

// P51: of what could not be parsed, too.
func TestVarsAndCallsNone(t *testing.T) {
	for _, f := range []tree.Fun{{}, {Name: "f", Params: []string{}, Body: []tree.Stmt{}}, {Body: make([]tree.Stmt, 3)}} {
		same(t, "Vars", f, check.Vars(f), nil)
		same(t, "Calls", f, check.Calls(f), nil)
	}
	f := tree.Fun{Params: []string{"", "if"}, Body: []tree.Stmt{
		{Kind: "var", E: call("")},
		{Kind: "var", Name: "9", E: tree.Expr{Kind: "what", Name: "n", Kids: []tree.Expr{call("A", call(""), call("x"))}}},
		{Kind: "what", Name: "no", Then: []tree.Stmt{{Kind: "var", Name: "x"}}, Else: []tree.Stmt{{Kind: "var", Name: "y", E: call("z")}}},
	}}
	same(t, "Vars", f, check.Vars(f), []string{"", "if", "", "9", "x", "y"})
	same(t, "Calls", f, check.Calls(f), []string{"", "x", "A", "z"})
}

// P51: variables and calls of programs by chance are those of their tokens: names behind `var`, and names of parentheses as they are closed.
func TestVarsAndCallsGrown(t *testing.T) {
	g := &grower{Rand: rand.New(rand.NewSource(51)), slips: 30}
	asked := 0
	for range 1000 {
		for _, f := range g.program() {
			list, ok := fits([]tree.Fun{f})
			if !ok {
				continue
			}
			asked++
			vars, calls, open := slices.Clone(f.Params), []string(nil), []string(nil)
			for i, tok := range list {
				switch {
				case tok.Text == "var":
					vars = append(vars, list[i+1].Text)
				case tok.Text == "(" && list[i-1].Kind == "name" && i > 2:
					open = append(open, list[i-1].Text)
				case tok.Text == "(":
					open = append(open, "")
				case tok.Text == ")":
					last := open[len(open)-1]
					open = open[:len(open)-1]
					if last != "" && !slices.Contains(calls, last) {
						calls = append(calls, last)
					}
				}
			}
			same(t, "Vars", f, check.Vars(f), vars)
			same(t, "Calls", f, check.Calls(f), calls)
		}
	}
	if asked < 1000 {
		t.Errorf("only %d functions were asked", asked)
	}
}

// P1: trees of some hundred deep.
func TestDeep(t *testing.T) {
	e, block, calls := num(1), []tree.Stmt(nil), num(1)
	for range 300 {
		e, calls = two("-", num(1), one("!", e)), call("f", calls)
		block = []tree.Stmt{{Kind: "if", E: calls, Else: block}}
	}
	l := []tree.Fun{{Name: "f", Params: []string{"a"}, Body: append(block, printed(e))}}
	well(t, l)
	same(t, "Calls", l[0], check.Calls(l[0]), []string{"f"})
	same(t, "Vars", l[0], check.Vars(l[0]), []string{"a"})
	l[0].Params = nil
	fault(t, l, 0, api.ErrArgs)
}

// P2: asked again, the same is told.
func TestAgain(t *testing.T) {
	g := &grower{Rand: rand.New(rand.NewSource(2)), slips: 20}
	for range 50 {
		l := g.program()
		first := check.Program(l)
		for range 20 {
			if again := check.Program(l); !reflect.DeepEqual(again, first) {
				t.Fatalf("%v, then %v\n%s", first, again, show.Program(l))
			}
		}
	}
}

// P3: what lies behind a list's length is neither read nor written.
func TestBehindLength(t *testing.T) {
	text := "fn f(a, b) { var x = g(1, c); if a { x = 1; x = none; } else { print 2; print none; } print none; } fn g(a) { } fn g() { return none; }"
	whole := parse(t, text)
	cut := slices.Clone(whole)[:2]
	cut[0].Params = cut[0].Params[:1]
	cut[0].Body = cut[0].Body[:2]
	cut[0].Body[0].E.Kids = cut[0].Body[0].E.Kids[:1]
	cut[0].Body[1].Then = cut[0].Body[1].Then[:1]
	cut[0].Body[1].Else = cut[0].Body[1].Else[:1]
	well(t, cut)
	got := append(check.Vars(cut[0]), check.Calls(cut[0])...)
	if want := []string{"a", "x", "g"}; !slices.Equal(got, want) {
		t.Errorf("got %q, want %q", got, want)
	}
	if again := parse(t, text); !slices.Equal(whole[0].Params[:2], again[0].Params) || !reflect.DeepEqual(whole[0].Body[1].Then[:2], again[0].Body[1].Then) || !reflect.DeepEqual(whole[2], again[2]) {
		t.Error("what lies behind a list's length has changed")
	}
}

// P4: what is handed over stays as it is, and what is answered is new memory.
func TestMemory(t *testing.T) {
	text := "fn f(a, b, c) { var x = g(f(1, 2, 3)); if a { x = 1; } else { print 4; } return x; } fn g(a) { print none; }"
	l := parse(t, text)
	params := append(make([]string, 0, 10), "a", "b", "c")
	l[0].Params = params
	check.Program(l)
	one, two := check.Vars(l[0]), check.Vars(l[0])
	_ = append(one, "none")
	one[0], one[3] = "z", "z"
	same(t, "Vars", l[0], two, []string{"a", "b", "c", "x"})
	three, four := check.Calls(l[0]), check.Calls(l[0])
	three[0] = "z"
	same(t, "Calls", l[0], four, []string{"f", "g"})
	if !slices.Equal(params[:10], []string{"a", "b", "c", "", "", "", "", "", "", ""}) || !reflect.DeepEqual(l, parse(t, text)) {
		t.Error("what was handed over has changed")
	}
	l[0].Params[0], l[0].Body[0].Name = "q", "q"
	same(t, "Vars", l[0], two, []string{"a", "b", "c", "x"})
}
