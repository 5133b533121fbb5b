package show_test

import (
	"math"
	"math/rand"
	"reflect"
	"slices"
	"strings"
	"testing"

	"kelpforest/api"
	"kelpforest/lex"
	"kelpforest/show"
	"kelpforest/tree"
	"kelpforest/val"
)

func num(n int) tree.Expr     { return tree.Expr{Kind: "num", Num: n} }
func name(s string) tree.Expr { return tree.Expr{Kind: "name", Name: s} }
func one(op string, kids ...tree.Expr) tree.Expr {
	return tree.Expr{Kind: "one", Name: op, Kids: kids}
}
func two(op string, kids ...tree.Expr) tree.Expr {
	return tree.Expr{Kind: "two", Name: op, Kids: kids}
}
func call(f string, kids ...tree.Expr) tree.Expr {
	return tree.Expr{Kind: "call", Name: f, Kids: kids}
}

// read and parse a text.
func read(s string) ([]tree.Fun, error) {
	l, err := lex.Read(s)
	if err != nil {
		return nil, err
	}
	return tree.Parse(l)
}

func parse(t *testing.T, s string) []tree.Fun {
	t.Helper()
	p, err := read(s)
	if err != nil {
		t.Fatalf("%q: %v", s, err)
	}
	return p
}

// within: a function that answers an expression.
func within(e string) string { return "fn f() {\n\treturn " + e + ";\n}\n" }

func isExpr(t *testing.T, e tree.Expr, want string) {
	t.Helper()
	if got := show.Expr(e); got != want {
		t.Errorf("Expr(%v) = %q, want %q", e, got, want)
	}
}

func isProgram(t *testing.T, l []tree.Fun, want string) {
	t.Helper()
	if got := show.Program(l); got != want {
		t.Errorf("Program(%v) =\n%s\nwant\n%s", l, got, want)
	}
}

// P40: each kind.
func TestExprKinds(t *testing.T) {
	a, b := name("a"), name("b1")
	for want, e := range map[string]tree.Expr{
		"0":                    num(0),
		"7":                    num(7),
		"1000":                 num(1000),
		"b1":                   b,
		"f()":                  call("f"),
		"f(a)":                 call("f", a),
		"f(a, b1, 3)":          call("f", a, b, num(3)),
		"f(a + b1, -a, g(a))":  call("f", two("+", a, b), one("-", a), call("g", a)),
		"f(a == b1, !(a | 1))": call("f", two("==", a, b), one("!", two("|", a, num(1)))),
		"-a":                   one("-", a),
		"!a":                   one("!", a),
		"--a":                  one("-", one("-", a)),
		"!-!1":                 one("!", one("-", one("!", num(1)))),
		"-f(a)":                one("-", call("f", a)),
		"a + b1":               two("+", a, b),
		"a + 2 * a":            two("+", a, two("*", num(2), a)),
		"-a - -b1":             two("-", one("-", a), one("-", b)),
		"f(a) << g()":          two("<<", call("f", a), call("g")),
	} {
		isExpr(t, e, want)
	}
}

// P40: every op stands with a blank on either side.
func TestExprOps(t *testing.T) {
	for _, op := range val.Ops() {
		isExpr(t, two(op, name("a"), num(2)), "a "+op+" 2")
	}
}

// levels of the ops, as chapter 3 tells them: the last binds most.
var levels = [][]string{{"==", "!="}, {"<", "<="}, {"|"}, {"^"}, {"&"}, {"<<", ">>"}, {"+", "-"}, {"*", "/", "%"}}

func level(op string) int {
	return slices.IndexFunc(levels, func(l []string) bool { return slices.Contains(l, op) })
}

// P40: of two, parentheses are around a left kid of a lesser level, and a right one of a lesser or the same one.
func TestExprLevels(t *testing.T) {
	a, b, c := name("a"), name("b"), name("c")
	for _, x := range val.Ops() {
		for _, y := range val.Ops() {
			left, right := "a "+x+" b "+y+" c", "a "+y+" b "+x+" c"
			if level(x) < level(y) {
				left = "(a " + x + " b) " + y + " c"
			}
			if level(x) <= level(y) {
				right = "a " + y + " (b " + x + " c)"
			}
			isExpr(t, two(y, two(x, a, b), c), left)
			isExpr(t, two(y, a, two(x, b, c)), right)
		}
	}
}

// P40: of one, parentheses are around a kid that is two, and around no other.
func TestExprOne(t *testing.T) {
	a, b := name("a"), name("b")
	for _, op := range []string{"-", "!"} {
		for _, x := range val.Ops() {
			isExpr(t, one(op, two(x, a, b)), op+"(a "+x+" b)")
			isExpr(t, one("-", one(op, two(x, a, b))), "-"+op+"(a "+x+" b)")
			isExpr(t, two(x, one(op, a), one(op, b)), op+"a "+x+" "+op+"b")
			isExpr(t, one(op, call("f", two(x, a, b))), op+"f(a "+x+" b)")
		}
	}
}

// P40: numbers at the edges; one below 0 has its own parentheses, and no others around them.
func TestExprNumbers(t *testing.T) {
	for n, want := range map[int]string{
		math.MaxInt:     "9223372036854775807",
		1:               "1",
		-1:              "(0 - 1)",
		-10:             "(0 - 10)",
		math.MinInt + 1: "(0 - 9223372036854775807)",
		math.MinInt:     "(0 - 9223372036854775807 - 1)",
	} {
		isExpr(t, num(n), want)
		isExpr(t, one("-", num(n)), "-"+want)
		isExpr(t, two("*", num(n), num(n)), want+" * "+want)
		isExpr(t, two("==", num(n), num(n)), want+" == "+want)
		isExpr(t, call("f", num(n), num(n)), "f("+want+", "+want+")")
		isProgram(t, []tree.Fun{{Name: "f", Body: []tree.Stmt{{Kind: "return", E: num(n)}}}}, within(want))
	}
}

// none: what is no Expr: of no kind, of an op that is none, of too few kids or too many.
func none() []tree.Expr {
	a := name("a")
	l := []tree.Expr{{}, {Num: 7}, {Name: "a"}, {Kids: []tree.Expr{a}}}
	for _, kind := range []string{"what", "Num", "num ", "op", "set", "return", "three"} {
		l = append(l, tree.Expr{Kind: kind, Num: 7, Name: "-", Kids: []tree.Expr{a}}, tree.Expr{Kind: kind, Name: "+", Kids: []tree.Expr{a, a}})
	}
	for _, op := range []string{"", "+", "*", "==", "!=", "~", "a", " -", "--"} {
		l = append(l, one(op, a))
	}
	for _, op := range []string{"", "!", "=", ">", ">=", "&&", "a", "+ ", "(", ","} {
		l = append(l, two(op, a, a))
	}
	for _, op := range []string{"-", "!"} {
		l = append(l, one(op), one(op, a, a), one(op, a, a, a))
	}
	for _, op := range val.Ops() {
		l = append(l, two(op), two(op, a), two(op, a, a, a))
	}
	return l
}

// P40: what is no Expr is empty, also as a kid: nothing stands for it, and no parentheses around it.
func TestExprNone(t *testing.T) {
	a := name("a")
	for _, e := range none() {
		isExpr(t, e, "")
		isExpr(t, one("-", e), "-")
		isExpr(t, two("*", e, a), " * a")
		isExpr(t, two("*", a, e), "a * ")
		isExpr(t, call("f", e), "f()")
		isExpr(t, call("f", a, e, a), "f(a, , a)")
	}
}

// P41: each statement, in blocks in blocks.
func TestProgramStatements(t *testing.T) {
	a, x := name("a"), two("+", name("a"), num(1))
	isProgram(t, []tree.Fun{
		{Name: "f", Params: []string{"a", "b", "c"}, Body: []tree.Stmt{
			{Kind: "var", Name: "x", E: x},
			{Kind: "set", Name: "x", E: a},
			{Kind: "if", E: x, Then: []tree.Stmt{
				{Kind: "while", E: a, Then: []tree.Stmt{
					{Kind: "print", E: one("-", x)},
					{Kind: "if", E: num(0)},
					{Kind: "if", E: num(1), Else: []tree.Stmt{{Kind: "print", E: num(2)}}},
				}},
				{Kind: "while", E: num(-1)},
			}, Else: []tree.Stmt{
				{Kind: "if", E: call("g"), Then: []tree.Stmt{{Kind: "return", E: num(3)}}, Else: []tree.Stmt{{Kind: "return", E: a}}},
				{Kind: "set", Name: "yy", E: num(4)},
			}},
			{Kind: "return", E: call("f", a, x, num(5))},
		}},
		{Name: "g"},
		{Name: "main", Params: []string{"n"}, Body: []tree.Stmt{{Kind: "print", E: name("n")}}},
	}, strings.Join([]string{
		"fn f(a, b, c) {",
		"\tvar x = a + 1;",
		"\tx = a;",
		"\tif a + 1 {",
		"\t\twhile a {",
		"\t\t\tprint -(a + 1);",
		"\t\t\tif 0 {",
		"\t\t\t}",
		"\t\t\tif 1 {",
		"\t\t\t} else {",
		"\t\t\t\tprint 2;",
		"\t\t\t}",
		"\t\t}",
		"\t\twhile (0 - 1) {",
		"\t\t}",
		"\t} else {",
		"\t\tif g() {",
		"\t\t\treturn 3;",
		"\t\t} else {",
		"\t\t\treturn a;",
		"\t\t}",
		"\t\tyy = 4;",
		"\t}",
		"\treturn f(a, a + 1, 5);",
		"}",
		"fn g() {",
		"}",
		"fn main(n) {",
		"\tprint n;",
		"}",
		"",
	}, "\n"))
}

// P41: lists of nothing, nil or empty.
func TestProgramNothing(t *testing.T) {
	isProgram(t, nil, "")
	isProgram(t, []tree.Fun{}, "")
	isProgram(t, make([]tree.Fun, 2), "fn () {\n}\nfn () {\n}\n")
	isProgram(t, []tree.Fun{{Name: "f", Params: []string{}, Body: []tree.Stmt{}}}, "fn f() {\n}\n")
	isProgram(t, []tree.Fun{{Name: "f", Body: []tree.Stmt{{Kind: "if", E: call("g", []tree.Expr{}...), Then: []tree.Stmt{}, Else: []tree.Stmt{}}}}}, "fn f() {\n\tif g() {\n\t}\n}\n")
}

// P41: what is no statement has no line; one of what is no Expr has it with nothing there; an Else is an if's alone.
func TestProgramNone(t *testing.T) {
	inner := []tree.Stmt{{Kind: "print", E: num(1)}}
	for _, kind := range []string{"", "what", "Var", "else", "fn", "num", "call"} {
		isProgram(t, []tree.Fun{{Name: "f", Body: []tree.Stmt{{Kind: kind, Name: "x", E: num(1), Then: inner, Else: inner}, inner[0]}}}, "fn f() {\n\tprint 1;\n}\n")
	}
	isProgram(t, []tree.Fun{{Name: "f", Body: []tree.Stmt{{Kind: "var", Name: "x"}, {Kind: "set", Name: "x"}, {Kind: "if"}, {Kind: "while"}, {Kind: "return"}, {Kind: "print"}}}},
		"fn f() {\n\tvar x = ;\n\tx = ;\n\tif  {\n\t}\n\twhile  {\n\t}\n\treturn ;\n\tprint ;\n}\n")
	for _, kind := range []string{"var", "set", "return", "print", "while"} {
		plain := tree.Stmt{Kind: kind, Name: "x", E: num(1)}
		more := plain
		more.Else = inner
		isProgram(t, []tree.Fun{{Body: []tree.Stmt{more}}}, show.Program([]tree.Fun{{Body: []tree.Stmt{plain}}}))
	}
}

// P42: however a program is laid out, its text is one, and is the program again.
func TestReadAgain(t *testing.T) {
	for s, want := range map[string]string{
		"":                                "",
		" \n":                             "",
		"fn f(){}fn f(){}":                "fn f() {\n}\nfn f() {\n}\n",
		"fn f(a,b){return((a)+(b*(2)));}": "fn f(a, b) {\n\treturn a + b * 2;\n}\n",
		"fn f(){if(a){}else{}if a{}else{print 1;}}":                          "fn f() {\n\tif a {\n\t}\n\tif a {\n\t} else {\n\t\tprint 1;\n\t}\n}\n",
		"fn f(){x=--1- -(-1);print!(a!=!b);}":                                "fn f() {\n\tx = --1 - --1;\n\tprint !(a != !b);\n}\n",
		"fn f(){while 999999999999999999{}}":                                 "fn f() {\n\twhile 999999999999999999 {\n\t}\n}\n",
		"fn f() { " + strings.Repeat("if a {", 11) + strings.Repeat("}", 12): nested(11),
	} {
		p := parse(t, s)
		isProgram(t, p, want)
		if again := parse(t, want); !reflect.DeepEqual(again, p) {
			t.Errorf("%q is read again as %v", want, again)
		}
	}
}

// nested: a function with so many ifs in each other.
func nested(n int) string {
	s := "fn f() {\n"
	for i := range n {
		s += strings.Repeat("\t", i+1) + "if a {\n"
	}
	for i := range n {
		s += strings.Repeat("\t", n-i) + "}\n"
	}
	return s + "}\n"
}

func pick(r *rand.Rand, l ...string) string { return l[r.Intn(len(l))] }

// grown: an expression by chance, at most so deep.
func grown(r *rand.Rand, deep int) tree.Expr {
	switch kind := r.Intn(8); {
	case deep == 0 || kind == 0:
		return []tree.Expr{num(r.Intn(100)), num(999999999999999999), name("a"), name("b1")}[r.Intn(4)]
	case kind == 1:
		return one(pick(r, "-", "!"), grown(r, deep-1))
	case kind == 2:
		e := call("g")
		for range r.Intn(4) {
			e.Kids = append(e.Kids, grown(r, deep-1))
		}
		return e
	}
	return two(pick(r, val.Ops()...), grown(r, deep-1), grown(r, deep-1))
}

// grownBlock: statements by chance, at most so deep.
func grownBlock(r *rand.Rand, deep int) []tree.Stmt {
	var l []tree.Stmt
	for range r.Intn(4) {
		s := tree.Stmt{Kind: pick(r, "var", "set", "if", "while", "return", "print"), E: grown(r, 2)}
		switch {
		case s.Kind == "var", s.Kind == "set":
			s.Name = pick(r, "x", "yy", "abcdefgh")
		case s.Kind == "if" && deep > 0:
			s.Then, s.Else = grownBlock(r, deep-1), grownBlock(r, deep-1)
		case s.Kind == "while" && deep > 0:
			s.Then = grownBlock(r, deep-1)
		}
		l = append(l, s)
	}
	return l
}

// grownProgram: functions by chance.
func grownProgram(r *rand.Rand) []tree.Fun {
	var l []tree.Fun
	for range r.Intn(3) {
		f := tree.Fun{Name: pick(r, "f", "main"), Body: grownBlock(r, 3)}
		for range r.Intn(4) {
			f.Params = append(f.Params, pick(r, "a", "b1"))
		}
		l = append(l, f)
	}
	return l
}

// P42: programs by chance are read again from their text, unless it has become too long for a text.
func TestReadAgainGrown(t *testing.T) {
	r := rand.New(rand.NewSource(1))
	asked := 0
	for range 3000 {
		want := grownProgram(r)
		s := show.Program(want)
		got, err := read(s)
		if err == api.ErrBound || err == api.ErrFull {
			continue
		}
		if err != nil || !reflect.DeepEqual(got, want) {
			t.Fatalf("%s\nis read again as %v, %v\nwant %v", s, got, err, want)
		}
		asked++
	}
	if asked < 2000 {
		t.Errorf("only %d programs were asked", asked)
	}
}

// pairs: the places of parentheses of a text, but those of calls.
func pairs(s string) [][2]int {
	var open []int
	var l [][2]int
	for i := range len(s) {
		switch s[i] {
		case '(':
			open = append(open, i)
		case ')':
			from := open[len(open)-1]
			open = open[:len(open)-1]
			if from == 0 || !strings.ContainsRune("abcdefghijklmnopqrstuvwxyz0123456789", rune(s[from-1])) {
				l = append(l, [2]int{from, i})
			}
		}
	}
	return l
}

// P40, P42: expressions by chance are read again from their text, and otherwise without any one of its parentheses.
func TestParenthesesNeeded(t *testing.T) {
	r := rand.New(rand.NewSource(2))
	asked := 0
	for range 3000 {
		want := grown(r, 4)
		s := show.Expr(want)
		if got := parse(t, within(s)); !reflect.DeepEqual(got[0].Body[0].E, want) {
			t.Fatalf("%s is read again as %v, want %v", s, got, want)
		}
		for _, p := range pairs(s) {
			less := s[:p[0]] + s[p[0]+1:p[1]] + s[p[1]+1:]
			if got := parse(t, within(less)); reflect.DeepEqual(got[0].Body[0].E, want) {
				t.Fatalf("%s is also %s", s, less)
			}
			asked++
		}
	}
	if asked < 1000 {
		t.Errorf("only %d parentheses were asked", asked)
	}
}

// P1: trees of some hundred deep.
func TestDeep(t *testing.T) {
	left, right, ones := name("a"), name("a"), name("a")
	var block []tree.Stmt
	for range 300 {
		left, right, ones = two("-", left, name("a")), two("-", name("a"), right), one("!", ones)
		block = []tree.Stmt{{Kind: "if", E: name("a"), Then: block}}
	}
	isExpr(t, left, "a"+strings.Repeat(" - a", 300))
	isExpr(t, right, strings.Repeat("a - (", 299)+"a - a"+strings.Repeat(")", 299))
	isExpr(t, ones, strings.Repeat("!", 300)+"a")
	isProgram(t, []tree.Fun{{Name: "f", Body: block}}, nested(300))
}

// P3, P4: what is handed over stays, and what lies behind a list's length is neither read nor written.
func TestOnlyReads(t *testing.T) {
	s := "fn f(a, b, c) { var x = f(1, 2, 3); if a { x = 1; x = 2; } else { print 4; print 5; } return x; } fn g() { }"
	whole := parse(t, s)
	cut := slices.Clone(whole)[:1]
	cut[0].Params = cut[0].Params[:2]
	cut[0].Body = slices.Clone(cut[0].Body)
	cut[0].Body[0].E.Kids = cut[0].Body[0].E.Kids[:1]
	cut[0].Body[1].Then = cut[0].Body[1].Then[:1]
	cut[0].Body[1].Else = cut[0].Body[1].Else[:0]
	cut[0].Body = cut[0].Body[:2]
	isProgram(t, cut, "fn f(a, b) {\n\tvar x = f(1);\n\tif a {\n\t\tx = 1;\n\t}\n}\n")
	if !reflect.DeepEqual(whole, parse(t, s)) {
		t.Error("Program changed what it was given")
	}
}

// P4: a later change of a tree doesn't show in its text.
func TestKeepsNothing(t *testing.T) {
	p := parse(t, "fn f(a) { return a + f(1); }")
	want := "fn f(a) {\n\treturn a + f(1);\n}\n"
	got, e := show.Program(p), show.Expr(p[0].Body[0].E)
	p[0].Params[0], p[0].Body[0].E.Kids[0].Name, p[0].Body[0].Kind = "z", "z", "print"
	if got != want || e != "a + f(1)" {
		t.Errorf("%s, %s", got, e)
	}
	isProgram(t, p, "fn f(z) {\n\tprint z + f(1);\n}\n")
}
