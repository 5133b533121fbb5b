package graph_test

import (
	"fmt"
	"math/rand"
	"reflect"
	"slices"
	"strings"
	"testing"

	"kelpforest/api"
	"kelpforest/check"
	"kelpforest/graph"
	"kelpforest/lex"
	"kelpforest/run"
	"kelpforest/show"
	"kelpforest/tree"
	"kelpforest/val"
)

// built: the graph of a function, which must be sound.
func built(t *testing.T, f tree.Fun) graph.Graph {
	t.Helper()
	g, err := graph.Build(f)
	if err != nil || !graph.Sound(g) || g.Name != f.Name || g.Params != len(f.Params) {
		t.Fatalf("%v, %v, sound: %v\n%s%s", err, graph.Check(g), graph.Sound(g), show.Program([]tree.Fun{f}), text(g))
	}
	return g
}

// P73: what a graph of each kind of statement and expression does.
func TestBuild(t *testing.T) {
	for _, c := range []struct {
		s       string
		args    []int
		answers []int
		ticks   int
		want    string
	}{
		{"", []int{}, nil, 0, "done 0 0 [] []"},
		{"", []int{1, 2, 3, 4}, nil, 0, "done 0 0 [] []"},
		{"return 7;", []int{}, nil, 0, "done 7 0 [] []"},
		{"return a * 1000 + b * 100 + c * 10 + d;", []int{1, 2, 3, 4}, nil, 0, "done 1234 0 [] []"},
		{"return -a - !b;", []int{3, 0}, nil, 0, "done -4 0 [] []"},
		{"return a - b - 1;", []int{9, 4}, nil, 0, "done 4 0 [] []"},
		{"return a / b % a;", []int{9, 0}, nil, 0, "done 0 0 [] []"},
		{"var x = a; a = 5; print x; print a; var y = x + a; x = y; a = x; return a - y;", []int{3}, nil, 0, "done 0 0 [3 5] []"},
		{"print 1; return 2; print h(3); return 4; while 1 { }", []int{}, nil, 0, "done 2 0 [1] []"},
		{"if a { print 1; } print 2;", []int{1}, nil, 0, "done 0 0 [1 2] []"},
		{"if a { print 1; } print 2;", []int{0}, nil, 0, "done 0 0 [2] []"},
		{"if a { b = 1; } else { b = 2; } return b;", []int{5, 9}, nil, 0, "done 1 0 [] []"},
		{"if a { b = 1; } else { b = 2; } return b;", []int{0, 9}, nil, 0, "done 2 0 [] []"},
		{"if a { b = b + 1; } return b;", []int{0, 9}, nil, 0, "done 9 0 [] []"},
		{"if a { b = b + 1; } return b;", []int{1, 9}, nil, 0, "done 10 0 [] []"},
		{"if a { } else { } return b;", []int{1, 9}, nil, 0, "done 9 0 [] []"},
		{"if a { if b { c = 1; } else { c = 2; } } else { if b { c = 3; } } return c;", []int{1, 0, 9}, nil, 0, "done 2 0 [] []"},
		{"if a { if b { c = 1; } else { c = 2; } } else { if b { c = 3; } } return c;", []int{0, 1, 9}, nil, 0, "done 3 0 [] []"},
		{"if a { if b { c = 1; } else { c = 2; } } else { if b { c = 3; } } return c;", []int{0, 0, 9}, nil, 0, "done 9 0 [] []"},
		{"if a { return 1; } else { return 2; } print 3;", []int{0}, nil, 0, "done 2 0 [] []"},
		{"if a { return 1; } else { b = 4; } return b;", []int{0, 3}, nil, 0, "done 4 0 [] []"},
		{"if a { if b { return 1; } return 2; } return 3;", []int{1, 0}, nil, 0, "done 2 0 [] []"},
		{"if a { var x = 5; b = x; } else { var y = 6; b = y * 2; } var z = b; return z;", []int{0, 1}, nil, 0, "done 12 0 [] []"},
		{"if h(a) { print k(1); } return h(2);", []int{7}, []int{1, 5, 6}, 0, "done 6 0 [5] [{h [7]} {k [1]} {h [2]}]"},
		{"if h(a) { print k(1); } return h(2);", []int{7}, []int{0, 5, 6}, 0, "done 5 0 [] [{h [7]} {h [2]}]"},
		{"while a { print a; a = a - 1; } return 9;", []int{3}, nil, 4, "done 9 4 [3 2 1] []"},
		{"while a { print a; a = a - 1; } return 9;", []int{3}, nil, 3, "over 0 3 [3 2 1] []"},
		{"while a { print a; a = a - 1; } return 9;", []int{0}, nil, 1, "done 9 1 [] []"},
		{"while a { print a; a = a - 1; } return 9;", []int{0}, nil, 0, "over 0 0 [] []"},
		{"while 1 { }", []int{}, nil, 7, "over 0 7 [] []"},
		{"while 1 { print 1; }", []int{}, nil, 5000, "over 0 1001 1000 numbers to 1 []"},
		{"while 0 { print 1; } return 5;", []int{}, nil, 5, "done 5 1 [] []"},
		{"while 1 { return a; }", []int{8}, nil, 5, "done 8 1 [] []"},
		{"while a { b = 5; return b; } return b;", []int{0, 6}, nil, 5, "done 6 1 [] []"},
		{"var x = 1; var y = 2; while a { var z = x; x = y; y = z; a = a - 1; } return x * 10 + y;", []int{3}, nil, 9, "done 21 4 [] []"},
		{"var last = 0; while a { last = a; a = a - 1; } return last;", []int{3}, nil, 9, "done 1 4 [] []"},
		{"var x = 0; while a { x = h(x); a = a - 1; } return x;", []int{2}, []int{5, 6}, 9, "done 6 3 [] [{h [0]} {h [5]}]"},
		{"var x = 0; var y = 0; while a { y = x; x = h(a); a = a - 1; } return y * 10 + x;", []int{3}, []int{5, 6, 7}, 9, "done 67 4 [] [{h [3]} {h [2]} {h [1]}]"},
		{"while h(a) { a = a + 1; } return a;", []int{1}, []int{1, 1, 0}, 9, "done 3 3 [] [{h [1]} {h [2]} {h [3]}]"},
		{"while h(a) { a = a + 1; } return a;", []int{1}, []int{1, 1, 0}, 1, "over 0 1 [] [{h [1]}]"},
		{"while a { var i = b; while i { print a * 10 + i; i = i - 1; } a = a - 1; }", []int{2, 2}, nil, 20, "done 0 9 [22 21 12 11] []"},
		{"while a { while b { b = b - 1; if b == 2 { return h(b); } } a = a - 1; } return 9;", []int{2, 4}, []int{77}, 9, "done 77 3 [] [{h [2]}]"},
		{"while a { if a % 2 { b = b + a; } else { if a == 4 { return b; } c = c + 1; } a = a - 1; } return b + c;", []int{3, 0, 10}, nil, 9, "done 15 4 [] []"},
		{"while a { if a % 2 { b = b + a; } else { if a == 4 { return b; } c = c + 1; } a = a - 1; } return b + c;", []int{7, 0, 10}, nil, 9, "done 12 4 [] []"},
		{"if a { b = 1; } while b { b = b - 1; c = c + 1; } return c;", []int{1, 5, 0}, nil, 9, "done 1 2 [] []"},
		{"if a { b = 1; } while b { b = b - 1; c = c + 1; } return c;", []int{0, 5, 0}, nil, 9, "done 5 6 [] []"},
		{"return h(k(a) - 1, k(b)) + h(1);", []int{3, 4}, []int{10, 20, 30, 40}, 0, "done 70 0 [] [{k [3]} {k [4]} {h [9 20]} {h [1]}]"},
		{"return h() - k(1, 2, 3, 4, 5, 6);", []int{}, []int{10, 20}, 0, "done -10 0 [] [{h []} {k [1 2 3 4 5 6]}]"},
		{"return f(1) + f(1, 2);", []int{}, []int{10, 20}, 0, "done 30 0 [] [{f [1]} {f [1 2]}]"},
		{"print h(print1(2)); return 1;", []int{}, []int{10, 20}, 0, "done 1 0 [20] [{print1 [2]} {h [10]}]"},
	} {
		params := []string{"", "a", "a, b", "a, b, c", "a, b, c, d"}[len(c.args)]
		f := parse(t, "fn f("+params+") { "+c.s+" }")[0]
		g := built(t, f)
		if s := told(graph.Walk(g, c.args, c.answers, c.ticks)); s != c.want {
			t.Errorf("%s of %v with %v and %d ticks: %s, want %s", c.s, c.args, c.answers, c.ticks, s, c.want)
		}
		if s := told(does(f, c.args, c.answers, c.ticks)); s != c.want {
			t.Errorf("%s of %v: the test has %s, want %s", c.s, c.args, s, c.want)
		}
	}
}

// P73: every op.
func TestBuildOps(t *testing.T) {
	for _, op := range val.Ops() {
		g := built(t, parse(t, "fn f(a, b) { return a "+op+" b; }")[0])
		for _, a := range []int{-7, 0, 1, 63} {
			for _, b := range []int{-2, 0, 3} {
				want, _ := val.Do(op, a, b)
				if d := graph.Walk(g, []int{a, b}, nil, 0); d.How != "done" || d.Value != want {
					t.Errorf("%d %s %d: %s, want %d", a, op, b, told(d), want)
				}
			}
		}
	}
}

// P73, P3: check's errors of the function alone, bare.
func TestBuildErrors(t *testing.T) {
	vars := ""
	for i := range api.MaxVars {
		vars += "var v" + string(rune('a'+i)) + " = 1; "
	}
	zero := tree.Expr{Kind: "num"}
	call := func(name string, kids ...tree.Expr) tree.Fun {
		return tree.Fun{Name: "f", Body: []tree.Stmt{{Kind: "print", E: tree.Expr{Kind: "call", Name: name, Kids: kids}}}}
	}
	stmt := func(s tree.Stmt) tree.Fun { return tree.Fun{Name: "f", Body: []tree.Stmt{s}} }
	first := func(s string) tree.Fun { return parse(t, s)[0] }
	for _, c := range []struct {
		what string
		f    tree.Fun
		want error
	}{
		{"no name", tree.Fun{}, api.ErrName},
		{"a word", tree.Fun{Name: "while"}, api.ErrName},
		{"a parameter's name", tree.Fun{Name: "f", Params: []string{"a", "1"}}, api.ErrName},
		{"a name ahead of too many parameters", tree.Fun{Name: "f", Params: []string{"a", "b", "c", "d", ""}}, api.ErrName},
		{"too many parameters", first("fn f(a, b, c, d, e) { }"), api.ErrArgs},
		{"too many parameters, ahead of twice", first("fn f(a, b, c, d, a) { }"), api.ErrArgs},
		{"as many as may be", first("fn f(a, b, c, d) { }"), nil},
		{"a parameter twice", first("fn f(a, b, a) { return x; }"), api.ErrExist},
		{"no statement", stmt(tree.Stmt{}), api.ErrShape},
		{"no statement", stmt(tree.Stmt{Kind: "print", E: zero, Then: make([]tree.Stmt, 1)}), api.ErrShape},
		{"no statement in a block", stmt(tree.Stmt{Kind: "while", E: zero, Then: []tree.Stmt{{Kind: "goto"}}}), api.ErrShape},
		{"no statement that is come to", tree.Fun{Name: "f", Body: []tree.Stmt{{Kind: "return", E: zero}, {}}}, api.ErrShape},
		{"no expression", stmt(tree.Stmt{Kind: "print"}), api.ErrShape},
		{"no op", stmt(tree.Stmt{Kind: "print", E: tree.Expr{Kind: "one", Name: "+", Kids: []tree.Expr{zero}}}), api.ErrShape},
		{"a number below 0", stmt(tree.Stmt{Kind: "print", E: tree.Expr{Kind: "num", Num: -1}}), api.ErrShape},
		{"no variable", first("fn f() { return a; }"), api.ErrNone},
		{"no variable, behind a return", first("fn f() { return 1; return a; }"), api.ErrNone},
		{"no variable any more", first("fn f() { if 1 { var a = 1; } return a; }"), api.ErrNone},
		{"no variable that is set", first("fn f() { a = 1; }"), api.ErrNone},
		{"a variable as an argument", first("fn f() { return h(a); }"), api.ErrNone},
		{"a variable twice", first("fn f(a) { if a { var b = 1; } var b = 2; }"), api.ErrExist},
		{"too many variables", first("fn f() { " + vars + "var w = 1; }"), api.ErrFull},
		{"too many variables, with a parameter", first("fn f(a) { " + vars + "}"), api.ErrFull},
		{"as many variables as may be", first("fn f() { " + vars + "}"), nil},
		{"a function that is not there", call("h"), nil},
		{"itself, with other arguments", call("f", zero, zero), nil},
		{"more arguments than may be", call("h", make([]tree.Expr, 5)...), api.ErrShape},
		{"more arguments than may be", call("h", zero, zero, zero, zero, zero), nil},
		{"a call of what is no name", call("", zero), api.ErrShape},
		{"a call of a word", call("print", zero), api.ErrShape},
		{"a call named as a variable", first("fn f(a) { return a(a); }"), nil},
	} {
		g, err := graph.Build(c.f)
		if err != c.want || err != nil && !reflect.DeepEqual(g, graph.Graph{}) || err == nil && !graph.Sound(g) {
			t.Errorf("%s: %T %v, want %v alone", c.what, err, err, c.want)
		}
		if alone := check.Alone(c.f); alone != c.want {
			t.Errorf("%s: alone: %T %v, want %v alone", c.what, alone, alone, c.want)
		}
	}
}

// A function that needs more nodes than a graph may have.
func TestBuildFull(t *testing.T) {
	prints := func(many int) tree.Fun {
		f := tree.Fun{Name: "f", Params: []string{"a"}}
		for range many {
			f.Body = append(f.Body, tree.Stmt{Kind: "print", E: tree.Expr{Kind: "name", Name: "a"}})
		}
		return f
	}
	if g, err := graph.Build(prints(api.MaxNodes)); err != api.ErrFull || len(g.Nodes) > 0 {
		t.Error(err, len(g.Nodes))
	}
	// start, param, const and return
	if g := built(t, prints(api.MaxNodes-4)); len(g.Nodes) != api.MaxNodes {
		t.Error(len(g.Nodes))
	}
	if _, err := graph.Build(prints(api.MaxNodes - 3)); err != api.ErrFull {
		t.Error(err)
	}
}

// Whatever fits into 400 bytes fits into a graph: the densest texts are loops and branches in each other, with as many variables as there may be.
func TestBuildDense(t *testing.T) {
	vars, sets := "", ""
	for i := range api.MaxVars - 4 {
		vars += "var " + string(rune('e'+i)) + "=1;"
	}
	for i := range api.MaxVars {
		sets += string(rune('a'+i)) + "=1;"
	}
	for _, c := range []struct{ open, close string }{{"while a{", "}"}, {"if a{", "a=a;}"}, {"while a{if a{", "a=a;}}"}, {"if a{", "}"}, {"if a{}else{", "}"}} {
		nests := api.MaxNest - 1
		if strings.Count(c.open, "{") > 1 && !strings.Contains(c.open, "}") {
			nests /= 2
		}
		s := "fn f(a,b,c,d){" + vars
		for range 9 {
			s += strings.Repeat(c.open, nests) + sets + strings.Repeat(c.close, nests)
			if len(s) > 400 {
				break
			}
		}
		g := built(t, parse(t, s+"}")[0])
		if len(g.Nodes) > 900 {
			t.Errorf("%d nodes of %d bytes: %s", len(g.Nodes), len(s)+1, s)
		}
	}
}

// body of a function as it is done, alone: answers are given to its calls, and it ends by a panic.
type body struct {
	graph.Done
	answers []int
	ticks   int
}

func (b *body) end(how string, v int) {
	b.How, b.Value = how, v
	panic(b)
}

// does: what a function does, apart from graphs.
func does(f tree.Fun, args, answers []int, ticks int) graph.Done {
	b := &body{answers: answers, ticks: ticks}
	vars := map[string]int{}
	for i, p := range f.Params {
		vars[p] = args[i]
	}
	func() {
		defer func() {
			if x := recover(); x != nil && x != any(b) {
				panic(x)
			}
		}()
		b.block(f.Body, vars)
		b.end("done", 0)
	}()
	return b.Done
}

func (b *body) block(l []tree.Stmt, vars map[string]int) {
	for _, s := range l {
		switch s.Kind {
		case "var", "set":
			vars[s.Name] = b.expr(s.E, vars)
		case "if":
			if b.expr(s.E, vars) != 0 {
				b.block(s.Then, vars)
			} else {
				b.block(s.Else, vars)
			}
		case "while":
			for b.asks(s.E, vars) {
				b.block(s.Then, vars)
			}
		case "print":
			v := b.expr(s.E, vars)
			if len(b.Out) == api.MaxOut {
				b.end("over", 0)
			}
			b.Out = append(b.Out, v)
		case "return":
			b.end("done", b.expr(s.E, vars))
		}
	}
}

func (b *body) asks(e tree.Expr, vars map[string]int) bool {
	if b.Ticks >= b.ticks {
		b.end("over", 0)
	}
	b.Ticks++
	return b.expr(e, vars) != 0
}

func (b *body) expr(e tree.Expr, vars map[string]int) int {
	var kids []int
	for _, k := range e.Kids {
		kids = append(kids, b.expr(k, vars))
	}
	switch e.Kind {
	case "name":
		return vars[e.Name]
	case "one":
		v, _ := val.One(e.Name, kids[0])
		return v
	case "two":
		v, _ := val.Do(e.Name, kids[0], kids[1])
		return v
	case "call":
		k := len(b.Calls)
		if k >= len(b.answers) {
			b.end("over", 0)
		}
		b.Calls = append(b.Calls, graph.Call{Name: e.Name, Args: kids})
		return b.answers[k]
	}
	return e.Num
}

// grower of functions that are well alone.
type grower struct {
	*rand.Rand
	calls bool
	vars  []string
	count int
}

func (g *grower) name() string { return g.vars[g.Intn(len(g.vars))] }

func (g *grower) expr(deep int) tree.Expr {
	switch n := g.Intn(10); {
	case n < 2 || len(g.vars) == 0 && (deep == 0 || n < 5):
		return tree.Expr{Kind: "num", Num: g.Intn(5)}
	case deep == 0 || n < 5:
		return tree.Expr{Kind: "name", Name: g.name()}
	case n < 6:
		return tree.Expr{Kind: "one", Name: []string{"-", "!"}[g.Intn(2)], Kids: []tree.Expr{g.expr(deep - 1)}}
	case n < 9 || !g.calls:
		ops := val.Ops()
		return tree.Expr{Kind: "two", Name: ops[g.Intn(len(ops))], Kids: []tree.Expr{g.expr(deep - 1), g.expr(deep - 1)}}
	}
	e := tree.Expr{Kind: "call", Name: []string{"h", "k"}[g.Intn(2)]}
	for range g.Intn(3) {
		e.Kids = append(e.Kids, g.expr(deep-1))
	}
	return e
}

func (g *grower) block(deep, most int) []tree.Stmt {
	here := len(g.vars)
	var l []tree.Stmt
	for range g.Intn(most + 1) {
		l = append(l, g.stmt(deep))
	}
	g.vars = g.vars[:here]
	return l
}

func (g *grower) stmt(deep int) tree.Stmt {
	e := g.expr(2)
	switch n := g.Intn(14); {
	case n < 2 && g.count < 8:
		name := "v" + string(rune('a'+g.count))
		g.count++
		g.vars = append(g.vars, name)
		return tree.Stmt{Kind: "var", Name: name, E: e}
	case n < 6 && len(g.vars) > 0:
		return tree.Stmt{Kind: "set", Name: g.name(), E: e}
	case n < 8 && deep > 0:
		return tree.Stmt{Kind: "if", E: e, Then: g.block(deep-1, 4), Else: g.block(deep-1, 3)}
	case n < 9 && deep > 0:
		return tree.Stmt{Kind: "while", E: e, Then: g.block(deep-1, 4)}
	case n < 11 && deep > 0 && len(g.vars) > 0:
		return g.counted(g.name(), deep)
	case n == 11 && g.Intn(3) == 0:
		return tree.Stmt{Kind: "return", E: e}
	}
	return tree.Stmt{Kind: "print", E: e}
}

// counted: a loop that mostly comes to its end.
func (g *grower) counted(v string, deep int) tree.Stmt {
	x := tree.Expr{Kind: "name", Name: v}
	some := tree.Expr{Kind: "two", Name: "<", Kids: []tree.Expr{{Kind: "num"}, x}}
	less := tree.Expr{Kind: "two", Name: "-", Kids: []tree.Expr{x, {Kind: "num", Num: 1}}}
	return tree.Stmt{Kind: "while", E: some, Then: append(g.block(deep-1, 3), tree.Stmt{Kind: "set", Name: v, E: less})}
}

// fun: one that a text may have.
func (g *grower) fun() tree.Fun {
	for {
		params := slices.Clone([]string{"a", "b", "c", "d"}[:g.Intn(5)])
		g.vars, g.count = slices.Clone(params), 0
		f := tree.Fun{Name: "f", Params: params, Body: g.block(4, 8)}
		if _, err := lex.Read(show.Program([]tree.Fun{f})); err == nil {
			return f
		}
	}
}

// P73, P75: functions by chance.
func TestBuildByChance(t *testing.T) {
	g := &grower{Rand: rand.New(rand.NewSource(73)), calls: true}
	m := &maker{Rand: g.Rand}
	seen, most := map[string]int{}, 0
	for range 4000 {
		f := g.fun()
		x := built(t, f)
		y := m.shuffled(x)
		most = max(most, len(x.Nodes))
		for range 6 {
			args, answers, ticks := m.numbers(len(f.Params)), m.numbers(g.Intn(12)), g.Intn(30)
			want := does(f, args, answers, ticks)
			if d := graph.Walk(x, args, answers, ticks); !alike(d, want) || !alike(graph.Walk(y, args, answers, ticks), want) {
				t.Fatalf("of %v with %v and %d ticks: %s, want %s\n%s%s", args, answers, ticks, told(d), told(want), show.Program([]tree.Fun{f}), text(x))
			}
			seen[want.How]++
			if want.Ticks > 4 && len(want.Out) > 2 && len(want.Calls) > 1 {
				seen["long "+want.How]++
			}
		}
	}
	for _, how := range []string{"done", "over", "long done", "long over"} {
		if seen[how] < 100 {
			t.Errorf("too few that are %s: %v", how, seen)
		}
	}
	if most < 300 {
		t.Errorf("no more than %d nodes", most)
	}
}

// P73: without calls it does what package run has it do, but for the tick of its own call.
func TestBuildAsRun(t *testing.T) {
	g := &grower{Rand: rand.New(rand.NewSource(60))}
	m := &maker{Rand: g.Rand}
	for range 2000 {
		f := g.fun()
		x := built(t, f)
		args, ticks := m.numbers(len(f.Params)), g.Intn(60)
		o, err := run.Run([]tree.Fun{f}, "f", args, ticks+1)
		if err != nil {
			t.Fatal(err)
		}
		want := graph.Done{How: "over", Value: o.Value, Ticks: o.Ticks - 1, Out: o.Out}
		if o.How == "done" {
			want.How = "done"
		}
		if d := graph.Walk(x, args, nil, ticks); !alike(d, want) {
			t.Fatalf("of %v with %d ticks: %s, want %s\n%s%s", args, ticks, told(d), told(want), show.Program([]tree.Fun{f}), text(x))
		}
	}
}

// P1: trees that are some hundred deep.
func TestBuildDeep(t *testing.T) {
	e := tree.Expr{Kind: "name", Name: "a"}
	for range 150 {
		e = tree.Expr{Kind: "one", Name: "-", Kids: []tree.Expr{e}}
	}
	l := []tree.Stmt{{Kind: "print", E: e}}
	for range 100 {
		l = []tree.Stmt{{Kind: "if", E: tree.Expr{Kind: "name", Name: "a"}, Then: l}, {Kind: "set", Name: "a", E: tree.Expr{Kind: "num"}}}
	}
	f := tree.Fun{Name: "f", Params: []string{"a"}, Body: l}
	g := built(t, f)
	if s := told(graph.Walk(g, []int{5}, nil, 0)); s != "done 0 0 [5] []" {
		t.Error(s)
	}
}

// P2, P3, P4: the same is made of the same, in new memory, of what is only read, to its length.
func TestBuildMemory(t *testing.T) {
	s := "fn f(a, b) { var s = 0; while a { if b { s = s + h(a, b); } a = a - 1; } print s; return s; }"
	f := parse(t, s)[0]
	first := built(t, f)
	for range 20 {
		if !reflect.DeepEqual(built(t, f), first) {
			t.Fatal("another one")
		}
	}
	second, before := built(t, f), text(first)
	for i := range second.Nodes {
		in := second.Nodes[i].In
		for k := range in[:cap(in)] {
			in[:cap(in)][k] = -1
		}
		second.Nodes[i].Kind = ""
		for j := range second.Nodes {
			if j > i && slices.Contains(second.Nodes[j].In, -1) {
				t.Fatal("two lists share their memory")
			}
		}
	}
	if text(first) != before || !reflect.DeepEqual(f, parse(t, s)[0]) {
		t.Error("it was changed")
	}
	f.Params[0], f.Body[1].E.Name = "x", "x"
	if text(first) != before {
		t.Error("it was kept")
	}
	short := parse(t, "fn f(a, b) { print a; print b; }")[0]
	short.Params, short.Body = short.Params[:1], short.Body[:1]
	if d := graph.Walk(built(t, short), []int{4}, nil, 0); told(d) != "done 0 0 [4] []" || short.Params[:2][1] != "b" || short.Body[:2][1].E.Name != "b" {
		t.Error(told(d))
	}
}

// P73: any order of numbers is as good, but node 0 is the start.
func TestBuildStart(t *testing.T) {
	g := built(t, parse(t, "fn longname(x) { }")[0])
	if g.Nodes[0].Kind != "start" || g.Name != "longname" || g.Params != 1 {
		t.Error(fmt.Sprint(g))
	}
}
