package place_test

import (
	"fmt"
	"math"
	"reflect"
	"slices"
	"sync"
	"testing"

	"kelpforest/api"
	"kelpforest/fold"
	"kelpforest/graph"
	"kelpforest/lex"
	"kelpforest/place"
	"kelpforest/tree"
)

// build the graph of a function, from its text.
func build(t *testing.T, s string) graph.Graph {
	t.Helper()
	l, err := lex.Read(s)
	if err != nil {
		t.Fatalf("Read(%q): %v", s, err)
	}
	p, err := tree.Parse(l)
	if err != nil {
		t.Fatalf("Parse(%q): %v", s, err)
	}
	g, err := graph.Build(p[0])
	if err != nil {
		t.Fatalf("Build(%q): %v", s, err)
	}
	return g
}

// node without Num and Name.
func node(kind string, in ...int) graph.Node { return graph.Node{Kind: kind, In: in} }

func named(kind, name string, in ...int) graph.Node {
	return graph.Node{Kind: kind, Name: name, In: in}
}

func num(kind string, k int) graph.Node { return graph.Node{Kind: kind, Num: k} }

// graphOf nodes, with so many parameters.
func graphOf(params int, l ...graph.Node) graph.Graph {
	return graph.Graph{Name: "f", Params: params, Nodes: l}
}

// graphText, for what a test tells.
func graphText(g graph.Graph) string {
	s := fmt.Sprintf("%s of %d\n", g.Name, g.Params)
	for i, n := range g.Nodes {
		s += fmt.Sprintln(i, n.Kind, n.In, n.Num, n.Name)
	}
	return s
}

// codeText, for what a test tells.
func codeText(c place.Code) string {
	s := fmt.Sprintf("%s of %d, %d values\n", c.Name, c.Params, c.Values)
	for i, b := range c.Blocks {
		s += fmt.Sprintln("block", i, b.Params)
		for _, x := range b.Ins {
			s += fmt.Sprintln("\t", x.D, x.Kind, x.Name, x.Num, x.Args)
		}
		s += fmt.Sprintln("\t", b.End, b.V, b.To, b.With)
	}
	return s
}

// makes: what a block's Params and Ins become, in order.
func makes(b place.Block) []int {
	l := slices.Clone(b.Params)
	for _, x := range b.Ins {
		if x.Kind != "tick" && x.Kind != "print" {
			l = append(l, x.D)
		}
	}
	return l
}

// counts of the values by how often they are made.
func counts(c place.Code) []int {
	l := make([]int, c.Values)
	for _, b := range c.Blocks {
		for _, v := range makes(b) {
			l[v]++
		}
	}
	return l
}

// set of values.
type set map[int]bool

// surely: of each block that is come to, what was made on all ways to it.
func surely(c place.Code) map[int]set {
	sure := map[int]set{0: {}}
	for changed := true; changed; {
		changed = false
		for i, b := range c.Blocks {
			if sure[i] == nil {
				continue
			}
			for _, to := range b.To {
				behind := set{}
				for v := range sure[i] {
					behind[v] = true
				}
				for _, v := range makes(b) {
					behind[v] = true
				}
				if old := sure[to]; old != nil {
					for v := range behind {
						if !old[v] {
							delete(behind, v)
						}
					}
				}
				if sure[to] == nil || len(behind) < len(sure[to]) {
					sure[to] = behind
					changed = true
				}
			}
		}
	}
	return sure
}

// ahead: is each value made ahead of where it is asked for, whatever way one comes?
func ahead(c place.Code) error {
	sure := surely(c)
	for i, b := range c.Blocks {
		if sure[i] == nil {
			return fmt.Errorf("nobody comes to block %d", i)
		}
		made := set{}
		for v := range sure[i] {
			made[v] = true
		}
		ask := func(l ...int) error {
			for _, v := range l {
				if !made[v] {
					return fmt.Errorf("block %d asks for %d too soon", i, v)
				}
			}
			return nil
		}
		var found []error
		for _, v := range b.Params {
			made[v] = true
		}
		for _, x := range b.Ins {
			found = append(found, ask(x.Args...))
			if x.Kind != "tick" && x.Kind != "print" {
				made[x.D] = true
			}
		}
		if b.End != "jump" {
			found = append(found, ask(b.V))
		}
		for _, l := range b.With {
			found = append(found, ask(l...))
		}
		for _, err := range found {
			if err != nil {
				return err
			}
		}
	}
	return nil
}

// placed: what Place makes of a graph that is sound; it must be as P93 and P94 say, but for what it does.
func placed(t *testing.T, g graph.Graph) place.Code {
	t.Helper()
	c, err := place.Place(g)
	if err != nil || place.Check(c) != nil || c.Name != g.Name || c.Params != g.Params {
		t.Fatalf("%v, %v\n%s%s", err, place.Check(c), graphText(g), codeText(c))
	}
	for v, times := range counts(c) {
		if times != 1 {
			t.Fatalf("value %d is made %d times\n%s%s", v, times, graphText(g), codeText(c))
		}
	}
	if err := ahead(c); err != nil {
		t.Fatalf("%v\n%s%s", err, graphText(g), codeText(c))
	}
	return c
}

// cut: what there was till a walk ended, if it went on.
func cut(d, end graph.Done) graph.Done {
	return graph.Done{How: end.How, Ticks: min(d.Ticks, end.Ticks), Out: d.Out[:min(len(d.Out), len(end.Out))], Calls: d.Calls[:min(len(d.Calls), len(end.Calls))]}
}

// same: a code does as a graph does. (Behind too many ways a graph is stuck; then the code, with fewer blocks, may go on.)
func same(t *testing.T, g graph.Graph, c place.Code, args, answers []int, ticks int) graph.Done {
	t.Helper()
	a, b := graph.Walk(g, args, answers, ticks), place.Walk(c, args, answers, ticks)
	if !alike(a, b) && (a.How != "stuck" || !alike(a, cut(b, a))) {
		t.Fatalf("of %v with %v and %d ticks: %s, want %s\n%s%s", args, answers, ticks, told(b), told(a), graphText(g), codeText(c))
	}
	return a
}

// P93, P94: functions of each kind.
func TestPlace(t *testing.T) {
	for _, s := range []string{
		"",
		"return a - b;",
		"return -a + !b * (a << 2);",
		"print 1; print h(2); return 3;",
		"if a { print b; } return a;",
		"if a { b = 1; } else { b = 2; } return b;",
		"if a { return 1; } else { return 2; }",
		"if a { if b { a = 1; } else { a = 2; } } else { if b { a = 3; } } return a;",
		"while a { print a; a = a - 1; } return 9;",
		"while 1 { }",
		"while 1 { return a; }",
		"while a { b = 5; return b; } return b;",
		"var x = 1; var y = 2; while a { var z = x; x = y; y = z; a = a - 1; } return x * 10 + y;",
		"var last = 0; while a { last = a; a = a - 1; } return last;",
		"var x = 0; var y = 0; while a { y = x; x = h(a); a = a - 1; } return y * 10 + x;",
		"var x = 0; var y = 1; var z = 2; while a { var o = x; x = y; y = z; z = o; a = a - 1; print x * 100 + y * 10 + z; }",
		"while a { var i = b; while i { print a * 10 + i; i = i - 1; } a = a - 1; }",
		"while a { while b { b = b - 1; if b == 2 { return h(b); } } a = a - 1; b = a; } return 9;",
		"while h(a) { a = a + b * b; } return a;",
		"var x = a * b; while a { if a % 2 { print x + 1; } else { print x + 2; } a = a - 1; } return x;",
		"var x = h(a); var y = x; while y { y = k(y, x * x); } return x * y;",
		"return h(k(a) - 1, k(b)) + h(1);",
		"while a { var old = a; a = a - 1; while b { b = b - 1; print old - a; } b = a; } return a;",
	} {
		g := build(t, "fn name(a, b) { "+s+" }")
		better, err := fold.Fold(g)
		if err != nil {
			t.Fatal(err)
		}
		for _, x := range []graph.Graph{g, better} {
			c := placed(t, x)
			for _, args := range [][]int{{0, 0}, {1, 5}, {4, 3}, {-2, 2}, {3, 0}} {
				for ticks := range 14 {
					same(t, x, c, args, []int{4, 0, 9, 1, 0}[:ticks%6], ticks)
				}
			}
		}
	}
}

// past: a loop with a phi that gets another one's value of the turn ahead; what is asked for behind the loop hangs on both.
func past() graph.Graph {
	return graphOf(1, node("start"), num("param", 0), num("const", 1), node("region", 0, 9), node("phi", 3, 1, 5), named("two", "-", 4, 2), node("phi", 3, 2, 4), node("tick", 3), node("if", 7, 4), node("yes", 8), node("no", 8), named("two", "*", 6, 5), node("return", 10, 11))
}

// knot: two regions that lead to each other, and to each of which one comes from outside.
func knot() graph.Graph {
	return graphOf(2, node("start"), num("param", 0), num("param", 1), num("const", 1), node("if", 0, 2), node("yes", 4), node("no", 4),
		node("region", 5, 15), node("phi", 7, 1, 12), node("tick", 7), node("print", 9, 8),
		node("region", 6, 10), named("two", "-", 13, 3), node("phi", 11, 1, 8), node("if", 11, 13), node("yes", 14), node("no", 14), named("two", "+", 1, 3), named("two", "*", 17, 13), node("return", 16, 18))
}

// P93: graphs that no function has.
func TestPlaceGraphs(t *testing.T) {
	for _, c := range []struct {
		what string
		g    graph.Graph
	}{
		{"least", graphOf(0, node("start"), node("region", 0, 1))},
		{"a region of one way", graphOf(1, node("start"), num("param", 0), node("region", 0), node("phi", 2, 1), node("region", 2), node("phi", 4, 3), node("return", 4, 5))},
		{"past", past()},
		{"knot", knot()},
		{"regions in a row", graphOf(1, node("start"), num("param", 0), node("region", 0), node("region", 2), node("region", 3), node("print", 4, 1), node("return", 5, 1))},
		{"a phi that nobody asks for", graphOf(1, node("start"), num("param", 0), node("region", 0, 4), node("phi", 2, 1, 8), node("yes", 5), node("if", 6, 1), node("tick", 2), node("no", 5), named("two", "+", 3, 3), node("return", 7, 1))},
		{"what nobody comes to", graphOf(0, node("start"), num("const", 3), node("region", 0, 5), node("phi", 2, 1, 4), named("call", "h", 6), node("print", 4, 4), node("yes", 8), node("no", 8), node("if", 9, 4), node("region", 7), node("return", 2, 3))},
		{"what is alike", graphOf(1, node("start"), num("param", 0), num("param", 0), num("const", 2), num("const", 2), named("two", "+", 1, 3), named("two", "+", 2, 4), node("print", 0, 5), node("return", 7, 6))},
		{"a value of a call that another call asks for", graphOf(0, node("start"), named("call", "h", 0), named("one", "-", 1), named("call", "h", 1, 2, 2, 1), named("two", "+", 3, 2), node("return", 3, 4))},
		{"both arms of a number", graphOf(0, node("start"), num("const", 1), node("if", 0, 1), node("yes", 2), node("no", 2), node("region", 4, 3), node("phi", 5, 1, 8), node("return", 5, 6), num("const", 7))},
		{"one phi as two others' at once", graphOf(2, node("start"), num("param", 0), num("param", 1), node("region", 9, 0), node("phi", 3, 5, 1), node("phi", 3, 4, 2), node("phi", 3, 4, 1), node("print", 3, 4), node("print", 7, 6), node("tick", 8))},
	} {
		if !graph.Sound(c.g) {
			t.Fatalf("%s: %v", c.what, graph.Check(c.g))
		}
		x := placed(t, c.g)
		for _, args := range [][]int{{0, 0}, {1, 0}, {3, 1}, {-7, 7}, {math.MinInt, 64}} {
			for ticks := range 8 {
				same(t, c.g, x, args[:c.g.Params], []int{3, -4, 5}, ticks)
			}
		}
	}
}

// P93, P72: what is done in so many ways that a walk just ends is done in no more blocks.
func TestPlaceLong(t *testing.T) {
	g := graphOf(1, node("start"), num("param", 0), num("const", 1), node("region", 0, 7), node("phi", 3, 1, 5), named("two", "-", 4, 2), node("if", 3, 4), node("yes", 6), node("no", 6), node("return", 8, 2))
	c := placed(t, g)
	if d := same(t, g, c, []int{49998}, nil, 0); told(d) != "done 1 0 [] []" {
		t.Error(told(d))
	}
	if d := graph.Walk(g, []int{50000}, nil, 0); d.How != "stuck" {
		t.Error(told(d))
	}
}

// find the block that makes a value by this op.
func find(c place.Code, op string) int {
	return slices.IndexFunc(c.Blocks, func(b place.Block) bool {
		return slices.ContainsFunc(b.Ins, func(x place.Ins) bool { return x.Name == op })
	})
}

// A value has its home out of loops, and where not all need it, behind the branch.
func TestHomes(t *testing.T) {
	in := func(c place.Code, block int, kind string) bool {
		return slices.ContainsFunc(c.Blocks[block].Ins, func(x place.Ins) bool { return x.Kind == kind })
	}
	c := placed(t, build(t, "fn f(a, b) { while a { print b ^ 5; a = a - 1; } return a; }"))
	if find(c, "^") != 0 || in(c, find(c, "-"), "tick") || !in(c, find(c, "-"), "print") || !in(c, find(c, "-"), "const") {
		t.Error(codeText(c))
	}
	c = placed(t, build(t, "fn f(a, b) { var x = b ^ 5; var y = b | 5; if a { print x; print y; } else { print 3; } return y; }"))
	if find(c, "^") == 0 || find(c, "|") != 0 || !in(c, find(c, "^"), "print") {
		t.Error(codeText(c))
	}
	c = placed(t, build(t, "fn f(a, b) { while a { var i = a; while i { i = i - 1; print a ^ 5; print (a ^ 5) | i; } a = a << 1; } return a; }"))
	if d := find(c, "^"); d == 0 || in(c, d, "print") || find(c, "|") == d {
		t.Error(codeText(c))
	}
}

// P93: graph.Check's errors, bare or with their place; then that it is not sound, bare.
func TestPlaceErrors(t *testing.T) {
	many := make([]graph.Node, api.MaxNodes+1)
	many[0] = node("start")
	well := []graph.Node{node("start"), num("const", 1), node("return", 0, 1)}
	more := func(n ...graph.Node) graph.Graph { return graphOf(0, append(slices.Clone(well), n...)...) }
	for _, c := range []struct {
		what string
		g    graph.Graph
		want error
	}{
		{"too many", graphOf(0, many...), api.ErrFull},
		{"nothing at all", graph.Graph{}, api.ErrShape},
		{"no start", graphOf(0, well[1:]...), api.ErrShape},
		{"too many parameters", graphOf(api.MaxParams+1, well...), api.ErrArgs},
		{"fewer than none", graphOf(-1, well...), api.ErrArgs},
		{"no kind", more(node("what")), &api.Fault{At: 3, Err: api.ErrKind}},
		{"no op", more(named("one", "+", 1)), &api.Fault{At: 3, Err: api.ErrKind}},
		{"no node", more(named("one", "-", 9)), &api.Fault{At: 3, Err: api.ErrBound}},
		{"no parameter", more(num("param", 0)), &api.Fault{At: 3, Err: api.ErrBound}},
		{"too few", more(named("two", "-", 1)), &api.Fault{At: 3, Err: api.ErrShape}},
		{"a way that nobody takes", graphOf(0, node("start"), num("const", 1)), &api.Fault{Err: api.ErrShape}},
		{"itself", more(named("one", "-", 4), named("one", "-", 3)), &api.Fault{At: 3, Err: api.ErrDeep}},
		{"not well and not sound", graphOf(0, node("start"), node("region", 0), node("phi", 1, 2), node("return", 1, 2), node("what")), &api.Fault{At: 4, Err: api.ErrKind}},
		{"a phi of itself", graphOf(0, node("start"), node("region", 0), node("phi", 1, 2), node("return", 1, 2)), api.ErrNone},
		{"a phi of itself that nobody asks for", graphOf(0, node("start"), node("region", 0), node("phi", 1, 2), node("return", 1, 4), num("const", 1)), api.ErrNone},
		{"a call that is not come to", graphOf(0, node("start"), node("return", 0, 2), named("call", "h", 3), node("region", 2)), api.ErrNone},
		{"a call of one arm", graphOf(0, node("start"), num("const", 1), node("if", 0, 1), node("yes", 2), node("no", 2), named("call", "h", 3), node("region", 5, 4), named("one", "-", 5), node("return", 6, 7)), api.ErrNone},
	} {
		x, err := place.Place(c.g)
		if !reflect.DeepEqual(err, c.want) || !reflect.DeepEqual(x, place.Code{}) {
			t.Errorf("%s: %v, want %v\n%s", c.what, err, c.want, codeText(x))
		}
	}
	placed(t, graphOf(0, well...))
}

// P1, P93: as many nodes as there may be.
func TestPlaceFull(t *testing.T) {
	full := func(params int, first []graph.Node, next func(i int) []graph.Node, last func(i int) []graph.Node) graph.Graph {
		g := graphOf(params, first...)
		for {
			i := len(g.Nodes)
			more, end := next(i), last(i)
			if i+len(more)+len(end) > api.MaxNodes {
				g.Nodes = append(g.Nodes, end...)
				return g
			}
			g.Nodes = append(g.Nodes, more...)
		}
	}
	start := []graph.Node{node("start"), num("param", 0)}
	for _, c := range []struct {
		what string
		g    graph.Graph
	}{
		{"values one upon the other", full(1, start, func(i int) []graph.Node { return []graph.Node{named("two", "+", i-1, i-1)} }, func(i int) []graph.Node { return []graph.Node{node("return", 0, i-1)} })},
		{"regions", full(0, []graph.Node{node("start")}, func(i int) []graph.Node { return []graph.Node{node("region", i-1)} }, func(i int) []graph.Node { return []graph.Node{num("const", i), node("return", i-1, i)} })},
		{"phis one upon the other", full(1, []graph.Node{node("start"), num("param", 0), node("region", 0), node("phi", 2, 1)}, func(i int) []graph.Node { return []graph.Node{node("region", i-2), node("phi", i, i-1)} }, func(i int) []graph.Node { return []graph.Node{node("return", i-2, i-1)} })},
		{"ifs", full(1, []graph.Node{node("start"), num("param", 0), node("region", 0)}, func(i int) []graph.Node {
			return []graph.Node{node("if", i-1, 1), node("yes", i), node("no", i), node("region", i+1, i+2)}
		}, func(i int) []graph.Node { return []graph.Node{node("return", i-1, 1)} })},
		{"calls one of the other", full(1, []graph.Node{node("start"), named("call", "h", 0)}, func(i int) []graph.Node { return []graph.Node{named("call", "h", i-1, i-1, 1)} }, func(i int) []graph.Node { return []graph.Node{node("return", i-1, 1)} })},
		{"prints", full(1, []graph.Node{node("start"), num("param", 0), node("tick", 0)}, func(i int) []graph.Node { return []graph.Node{node("print", i-1, 1)} }, func(i int) []graph.Node { return []graph.Node{node("return", i-1, 1)} })},
		{"rings in rings", rings(240)},
		{"one region with many phis", crowd()},
	} {
		if len(c.g.Nodes) < api.MaxNodes-4 || !graph.Sound(c.g) {
			t.Fatal(c.what, len(c.g.Nodes), graph.Check(c.g))
		}
		x := placed(t, c.g)
		for ticks := range 3 {
			same(t, c.g, x, []int{3, 4}[:c.g.Params], make([]int, ticks*700), ticks)
		}
	}
}

// rings: so many loops, one in another: each region is led to from the one ahead, and from a branch at the end; filled up with values.
func rings(deep int) graph.Graph {
	g := graphOf(2, node("start"), num("param", 0), num("param", 1))
	add := func(n graph.Node) int {
		g.Nodes = append(g.Nodes, n)
		return len(g.Nodes) - 1
	}
	way := 0
	var regions []int
	for range deep {
		way = add(node("region", way))
		regions = append(regions, way)
	}
	way = add(node("tick", way))
	for _, r := range slices.Backward(regions) {
		i := add(node("if", way, 1))
		g.Nodes[r].In = append(g.Nodes[r].In, add(node("yes", i)))
		way = add(node("no", i))
	}
	v := 2
	for len(g.Nodes) < api.MaxNodes-1 {
		v = add(named("two", "+", v, 1))
	}
	add(node("return", way, v))
	return g
}

// crowd: one region of many ways, with many phis that ask for each other.
func crowd() graph.Graph {
	g := graphOf(1, node("start"), num("param", 0), node("region", 0), node("tick", 2))
	add := func(n graph.Node) int {
		g.Nodes = append(g.Nodes, n)
		return len(g.Nodes) - 1
	}
	way := 3
	for range 200 {
		i := add(node("if", way, 1))
		g.Nodes[2].In = append(g.Nodes[2].In, add(node("yes", i)))
		way = add(node("no", i))
	}
	ways := len(g.Nodes[2].In)
	first, many := len(g.Nodes), api.MaxNodes-len(g.Nodes)-1
	for k := range many {
		phi := node("phi", 2, 1)
		for i := range ways - 1 {
			phi.In = append(phi.In, first+(k+i+1)%many)
		}
		add(phi)
	}
	add(node("return", way, first))
	return g
}

// P2, P3, P4: the same is made of the same, in new memory, of what is only read, to its length.
func TestPlaceMemory(t *testing.T) {
	g := build(t, "fn f(a, b) { var x = h(a, b); while x { if a { print x; a = b; b = x * 2; } else { x = k(x - b); } } return h(a + b) + x; }")
	for i, n := range g.Nodes {
		g.Nodes[i].In = append(slices.Clone(n.In), -5)[:len(n.In)]
	}
	g.Nodes = append(g.Nodes, node("what"))[:len(g.Nodes)]
	before, first := graphText(g), placed(t, g)
	want := codeText(first)
	var group sync.WaitGroup
	for range 20 {
		group.Go(func() {
			if x, err := place.Place(g); err != nil || codeText(x) != want {
				t.Error("another one")
			}
		})
	}
	group.Wait()
	second := placed(t, g)
	var lists [][]int
	for _, b := range second.Blocks {
		lists = append(lists, b.Params, b.To)
		lists = append(lists, b.With...)
		for _, x := range b.Ins {
			lists = append(lists, x.Args)
		}
	}
	for i, l := range lists {
		for k := range l[:cap(l)] {
			l[:cap(l)][k] = -1 - i
		}
	}
	for i, l := range lists {
		if slices.ContainsFunc(l, func(v int) bool { return v != -1-i }) {
			t.Fatal("two lists share their memory")
		}
	}
	for _, n := range g.Nodes {
		if n.In[:len(n.In)+1][len(n.In)] != -5 {
			t.Error("it was changed behind its length")
		}
	}
	if graphText(g) != before || codeText(first) != want {
		t.Error("it was changed")
	}
	for i := range g.Nodes {
		g.Nodes[i].Num, g.Nodes[i].Name = 9, "x"
		for k := range g.Nodes[i].In {
			g.Nodes[i].In[k] = 1
		}
	}
	if codeText(first) != want {
		t.Error("it was kept")
	}
}
