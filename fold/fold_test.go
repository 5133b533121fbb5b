package fold_test

import (
	"fmt"
	"math"
	"reflect"
	"slices"
	"sync"
	"testing"

	"kelpforest/api"
	"kelpforest/fold"
	"kelpforest/graph"
	"kelpforest/lex"
	"kelpforest/tree"
	"kelpforest/val"
)

func parse(t *testing.T, s string) tree.Fun {
	t.Helper()
	l, err := lex.Read(s)
	if err != nil {
		t.Fatalf("Read(%q): %v", s, err)
	}
	p, err := tree.Parse(l)
	if err != nil {
		t.Fatalf("Parse(%q): %v", s, err)
	}
	return p[0]
}

// node without Num and Name.
func node(kind string, in ...int) graph.Node { return graph.Node{Kind: kind, In: in} }

func named(kind, name string, in ...int) graph.Node {
	return graph.Node{Kind: kind, Name: name, In: in}
}

func num(kind string, k int) graph.Node { return graph.Node{Kind: kind, Num: k} }

// of: a graph with so many parameters.
func of(params int, l ...graph.Node) graph.Graph {
	return graph.Graph{Name: "f", Params: params, Nodes: l}
}

// copied: a graph in memory of its own.
func copied(g graph.Graph) graph.Graph {
	g.Nodes = slices.Clone(g.Nodes)
	for i := range g.Nodes {
		g.Nodes[i].In = slices.Clone(g.Nodes[i].In)
	}
	return g
}

// text of a graph, for what a test tells.
func text(g graph.Graph) string {
	s := fmt.Sprintf("%s of %d\n", g.Name, g.Params)
	for i, n := range g.Nodes {
		s += fmt.Sprintln(i, n.Kind, n.In, n.Num, n.Name)
	}
	return s
}

func count(g graph.Graph, kind string) int {
	many := 0
	for _, n := range g.Nodes {
		if n.Kind == kind {
			many++
		}
	}
	return many
}

// needless: what P81 counts, node by node against all others.
func needless(g graph.Graph) int {
	many := 0
	for i, n := range g.Nodes {
		reckoned := n.Kind == "one" || n.Kind == "two"
		fixed, twice, had := reckoned, false, false
		for _, k := range n.In {
			fixed = fixed && g.Nodes[k].Kind == "const"
		}
		for k, m := range g.Nodes {
			had = had || slices.Contains(m.In, i)
			twice = twice || k < i && m.Kind == n.Kind && m.Name == n.Name && m.Num == n.Num && slices.Equal(m.In, n.In)
		}
		if merges := reckoned || n.Kind == "param" || n.Kind == "const"; fixed || merges && twice || (merges || n.Kind == "phi") && !had {
			many++
		}
	}
	return many
}

// folded: what Fold makes of a graph that is well; it must be as P80 says, but for what it does.
func folded(t *testing.T, g graph.Graph) graph.Graph {
	t.Helper()
	x, err := fold.Fold(g)
	switch {
	case err != nil || graph.Check(x) != nil:
		t.Fatalf("%v, %v\n%s%s", err, graph.Check(x), text(g), text(x))
	case x.Name != g.Name || x.Params != g.Params || len(x.Nodes) > len(g.Nodes):
		t.Fatalf("%d nodes, of %d\n%s%s", len(x.Nodes), len(g.Nodes), text(g), text(x))
	case needless(x) != 0:
		t.Fatalf("%d needless\n%s%s", needless(x), text(g), text(x))
	case graph.Sound(g) && !graph.Sound(x):
		t.Fatalf("not sound any more\n%s%s", text(g), text(x))
	}
	return x
}

// same: do two graphs do the same?
func same(t *testing.T, g, x graph.Graph, args, answers []int, ticks int) graph.Done {
	t.Helper()
	want := graph.Walk(g, args, answers, ticks)
	if d := graph.Walk(x, args, answers, ticks); fmt.Sprint(d) != fmt.Sprint(want) {
		t.Fatalf("of %v with %v and %d ticks: %v, want %v\n%s%s", args, answers, ticks, d, want, text(g), text(x))
	}
	return want
}

// answers: a graph that answers its last value, which is that of a tree of values behind start.
func answers(params int, l ...graph.Node) graph.Graph {
	l = slices.Concat([]graph.Node{node("start")}, l)
	return of(params, append(l, node("return", 0, len(l)-1))...)
}

// P80, P81: graphs, how many are needless, how many nodes there are then.
func TestFold(t *testing.T) {
	for _, c := range []struct {
		what       string
		g          graph.Graph
		plain, all int
	}{
		{"least", of(0, node("start"), node("region", 0, 1)), 0, 2},
		{"a number", answers(0, num("const", 4)), 0, 3},
		{"one of a number", answers(0, num("const", 4), named("one", "-", 1)), 1, 3},
		{"one of a parameter", answers(1, num("param", 0), named("one", "-", 1)), 0, 4},
		{"two of a number, twice", answers(0, num("const", 4), named("two", "*", 1, 1)), 1, 3},
		{"two of a number and a parameter", answers(1, num("const", 4), num("param", 0), named("two", "*", 1, 2)), 0, 5},
		{"two of numbers by twos: only the first is of consts", answers(0, num("const", 4), named("two", "+", 1, 1), named("two", "+", 2, 2), named("two", "+", 3, 3)), 1, 3},
		{"what is reckoned is there as a number, ahead", answers(0, num("const", 4), num("const", 2), named("two", "+", 2, 2), named("two", "-", 1, 3)), 1, 3},
		{"what is reckoned is there as a number, behind", of(1, node("start"), num("const", 2), named("two", "+", 1, 1), num("const", 4), num("param", 0), named("two", "*", 4, 2), named("two", "*", 4, 3), named("two", "-", 5, 6), node("return", 0, 7)), 1, 6},
		{"numbers twice, and ones of them", answers(0, num("const", 4), num("const", 4), named("one", "!", 1), named("one", "!", 2), named("two", "|", 3, 4)), 3, 3},
		{"three of one number: two", of(0, node("start"), num("const", 1), num("const", 1), num("const", 1), node("print", 0, 1), node("print", 4, 2), node("return", 5, 3)), 2, 5},
		{"parameters twice", answers(2, num("param", 1), num("param", 1), num("param", 0), named("two", "-", 1, 2), named("two", "<", 4, 3)), 1, 6},
		{"a parameter and a number of one Num", answers(2, num("param", 1), num("const", 1), named("two", "-", 1, 2)), 0, 5},
		{"ones twice, by parameters that are twice", answers(1, num("param", 0), num("param", 0), named("one", "-", 1), named("one", "-", 2), named("two", "-", 3, 4)), 1, 5},
		{"ones of other names", answers(1, num("param", 0), named("one", "-", 1), named("one", "!", 1), named("two", "-", 2, 3)), 0, 6},
		{"a one and a two of one name", answers(1, num("param", 0), named("one", "-", 1), named("two", "-", 1, 1), named("two", "+", 2, 3)), 0, 6},
		{"twos of other names", answers(1, num("param", 0), named("two", "/", 1, 1), named("two", "%", 1, 1), named("two", "-", 2, 3)), 0, 6},
		{"twos the other way around, that must not", answers(2, num("param", 0), num("param", 1), named("two", "-", 1, 2), named("two", "-", 2, 1), named("two", "/", 3, 4)), 0, 7},
		{"twos the other way around, that may", answers(2, num("param", 0), num("param", 1), named("two", "+", 1, 2), named("two", "+", 2, 1), named("two", "/", 3, 4)), 0, 6},
		{"what looks alike only then", answers(1, num("param", 0), num("const", 1), num("const", 2), named("two", "+", 2, 2), named("two", "*", 1, 3), named("two", "*", 1, 4), named("two", "^", 5, 6)), 1, 6},
		{"nobody has", of(1, node("start"), num("param", 0), num("const", 1), num("const", 2), named("one", "-", 1), named("two", "-", 1, 1), node("return", 0, 3)), 3, 3},
		{"nobody has, but one that nobody has", of(1, node("start"), num("param", 0), named("one", "-", 1), named("one", "-", 2), named("one", "-", 3), num("const", 2), node("return", 0, 5)), 1, 3},
		{"nobody has, twice, and of numbers: once", of(0, node("start"), num("const", 1), named("one", "-", 1), named("one", "-", 1), node("return", 0, 1)), 2, 3},
		{"itself behind what is like it", of(1, node("start"), named("one", "-", 3), named("one", "-", 3), num("param", 0), node("print", 0, 2), node("return", 4, 1)), 1, 5},
		{"a phi that nobody has", of(1, node("start"), num("param", 0), node("region", 0), node("phi", 2, 1), node("return", 2, 1)), 1, 4},
		{"a phi that a phi has that nobody has", of(1, node("start"), num("param", 0), node("region", 0), node("phi", 2, 1), node("region", 2), node("phi", 4, 3), node("return", 4, 1)), 1, 5},
		{"a phi that it has itself", of(1, node("start"), num("param", 0), node("region", 0, 4), node("phi", 2, 1, 3), node("yes", 5), node("if", 2, 1), node("no", 5), node("return", 6, 1)), 0, 7},
		{"phis that have each other", of(1, node("start"), num("param", 0), node("region", 0, 4), node("phi", 2, 1, 8), node("yes", 5), node("if", 2, 1), node("no", 5), node("return", 6, 1), node("phi", 2, 1, 3)), 0, 7},
		{"phis alike are none of these", of(1, node("start"), num("param", 0), num("param", 0), node("region", 0), node("phi", 3, 1), node("phi", 3, 1), node("print", 3, 4), node("return", 6, 5)), 1, 7},
		{"calls alike are two calls", of(0, node("start"), named("call", "h", 0), named("call", "h", 1), node("return", 2, 1)), 0, 4},
		{"a call that nobody has", of(0, node("start"), num("const", 0), named("call", "h", 0), node("return", 2, 1)), 0, 4},
		{"ones of two calls alike", of(0, node("start"), named("call", "h", 0), named("call", "h", 1), named("one", "-", 1), named("one", "-", 2), named("two", "*", 3, 4), node("return", 2, 5)), 0, 7},
		{"ones of one call", of(0, node("start"), named("call", "h", 0), named("call", "h", 1), named("one", "-", 1), named("one", "-", 1), named("two", "*", 3, 4), node("return", 2, 5)), 1, 6},
		{"prints and ticks alike", of(0, node("start"), num("const", 5), num("const", 5), node("print", 0, 1), node("print", 3, 2), node("tick", 4), node("tick", 5), node("return", 6, 2)), 1, 7},
		{"an if of a number", of(0, node("start"), num("const", 0), named("one", "!", 1), node("if", 0, 2), node("yes", 3), node("no", 3), node("return", 4, 1), node("return", 5, 2)), 1, 8},
		{"what nobody comes to", of(0, node("start"), num("const", 0), named("one", "-", 1), named("one", "-", 1), node("return", 0, 1), node("region", 8), node("print", 5, 2), node("phi", 5, 2), named("call", "h", 6, 3, 7)), 2, 7},
	} {
		if err := graph.Check(c.g); err != nil || needless(c.g) != c.plain {
			t.Fatalf("%s: %v, %d needless", c.what, err, needless(c.g))
		}
		if k := fold.Plain(c.g); k != c.plain {
			t.Errorf("%s: %d, want %d", c.what, k, c.plain)
		}
		x := folded(t, c.g)
		if len(x.Nodes) > c.all || fold.Plain(x) != 0 {
			t.Errorf("%s: %d nodes, want %d\n%s", c.what, len(x.Nodes), c.all, text(x))
		}
		for _, args := range [][]int{{0, 0}, {1, -5}, {-7, 7}, {math.MinInt, 64}} {
			same(t, c.g, x, args[:c.g.Params], []int{3, -4}, 5)
		}
	}
}

// P80: each op of each pair of numbers becomes what package val has, also at the edges.
func TestFoldNumbers(t *testing.T) {
	edges := []int{0, 1, -1, 2, 7, -7, 63, 64, -64, math.MaxInt, math.MinInt}
	number := func(g graph.Graph, want int) {
		t.Helper()
		if x := folded(t, g); len(x.Nodes) != 3 || graph.Walk(x, nil, nil, 0).Value != want || count(x, "const") != 1 {
			t.Fatalf("want %d\n%s%s", want, text(g), text(x))
		}
	}
	for _, a := range edges {
		for _, op := range []string{"-", "!"} {
			want, _ := val.One(op, a)
			number(answers(0, num("const", a), named("one", op, 1)), want)
		}
		for _, b := range edges {
			for _, op := range val.Ops() {
				want, _ := val.Do(op, a, b)
				number(answers(0, num("const", a), num("const", b), named("two", op, 1, 2)), want)
			}
		}
	}
}

// P80: only ops whose values may change places are one with them the other way around.
func TestFoldSwapped(t *testing.T) {
	for _, op := range val.Ops() {
		g := of(2, node("start"), num("param", 1), num("param", 0), named("two", op, 1, 2), named("two", op, 2, 1), node("print", 0, 3), node("print", 5, 4), node("return", 6, 1))
		x := folded(t, g)
		if val.Swaps(op) != (count(x, "two") == 1) {
			t.Errorf("%s\n%s", op, text(x))
		}
		for _, args := range [][]int{{9, 2}, {2, 9}, {-9, 4}, {0, 3}, {5, 5}} {
			same(t, g, x, args, nil, 0)
		}
	}
}

// P80: what a phi had stays what it had, though what it was made of has changed since.
func TestFoldPhis(t *testing.T) {
	for _, s := range []string{
		"var x = a; var y = b; while a { x = y; y = a; a = a - 1; } return x * 100 + y;",
		"var x = a; while b { print x - a; x = a; a = a + 1; b = b - 1; } return x - a;",
		"var x = 1; var y = 1; while a { x = x + 1; y = y + 1; a = a - 1; print x * 10 + y; } return x - y;",
		"var x = 0; while a { if a & 1 { x = x + a; } else { x = x + a; } a = a - 1; } return x;",
	} {
		g, err := graph.Build(parse(t, "fn f(a, b) { "+s+" }"))
		if err != nil {
			t.Fatal(err)
		}
		x := folded(t, g)
		for _, args := range [][]int{{0, 0}, {3, 4}, {5, 2}, {-1, 3}} {
			for ticks := range 8 {
				same(t, g, x, args, nil, ticks)
			}
		}
	}
}

// P80, P81: graph.Check's errors, bare or with their place; then nothing is told, and nothing counted.
func TestFoldErrors(t *testing.T) {
	many := make([]graph.Node, api.MaxNodes+1)
	many[0] = node("start")
	well := []graph.Node{node("start"), num("const", 1), node("return", 0, 1)}
	for _, c := range []struct {
		what string
		g    graph.Graph
		at   int // below 0: bare
		want error
	}{
		{"too many", of(0, many...), -1, api.ErrFull},
		{"none", of(0), -1, api.ErrShape},
		{"nothing at all", graph.Graph{}, -1, api.ErrShape},
		{"no start", of(0, well[1:]...), -1, api.ErrShape},
		{"too many parameters", of(api.MaxParams+1, well...), -1, api.ErrArgs},
		{"fewer than none", of(-1, well...), -1, api.ErrArgs},
		{"no kind", of(0, append(slices.Clone(well), node("what"))...), 3, api.ErrKind},
		{"no op", of(0, append(slices.Clone(well), named("one", "+", 1))...), 3, api.ErrKind},
		{"no op of two", of(0, append(slices.Clone(well), named("two", "!", 1, 1))...), 3, api.ErrKind},
		{"no node", of(0, append(slices.Clone(well), named("one", "-", 9))...), 3, api.ErrBound},
		{"below 0", of(0, append(slices.Clone(well), named("one", "-", -1))...), 3, api.ErrBound},
		{"no parameter", of(0, append(slices.Clone(well), num("param", 0))...), 3, api.ErrBound},
		{"too few", of(0, append(slices.Clone(well), named("two", "-", 1))...), 3, api.ErrShape},
		{"a Name that it has not", of(0, append(slices.Clone(well), named("const", "x"))...), 3, api.ErrShape},
		{"a way that nobody takes", of(0, node("start"), num("const", 1), num("const", 1)), 0, api.ErrShape},
		{"itself", of(0, append(slices.Clone(well), named("one", "-", 4), named("one", "-", 3))...), 3, api.ErrDeep},
	} {
		x, err := fold.Fold(c.g)
		want := c.want
		if c.at >= 0 {
			want = &api.Fault{At: c.at, Err: c.want}
		}
		if !reflect.DeepEqual(err, want) || !reflect.DeepEqual(x, graph.Graph{}) {
			t.Errorf("%s: %v, want %v\n%s", c.what, err, want, text(x))
		}
		if k := fold.Plain(c.g); k != 0 {
			t.Errorf("%s: %d", c.what, k)
		}
	}
}

// P80: one that is not sound becomes any that is well, and has nothing needless either.
func TestFoldNotSound(t *testing.T) {
	for _, g := range []graph.Graph{
		of(0, node("start"), node("return", 0, 2), named("call", "h", 3), node("region", 2)),
		of(0, node("start"), num("const", 1), num("const", 1), named("two", "+", 1, 2), node("region", 0), node("phi", 4, 6), named("one", "-", 5), node("print", 4, 3), node("return", 7, 6)),
		of(1, node("start"), num("param", 0), node("region", 0, 6), node("phi", 2, 3, 7), node("if", 2, 3), node("no", 4), node("yes", 4), named("two", "*", 3, 3), node("return", 5, 7)),
	} {
		if graph.Check(g) != nil || graph.Sound(g) {
			t.Fatal(text(g))
		}
		folded(t, g)
	}
}

// P1: as many nodes as there may be: one upon the other, all alike, all needless.
func TestFoldFull(t *testing.T) {
	full := func(first graph.Node, next func(i int) graph.Node) graph.Graph {
		g := of(1, node("start"), first)
		for len(g.Nodes) < api.MaxNodes-1 {
			g.Nodes = append(g.Nodes, next(len(g.Nodes)))
		}
		g.Nodes = append(g.Nodes, node("return", 0, len(g.Nodes)-1))
		return g
	}
	upon := func(i int) graph.Node { return named("two", "+", i-1, i-1) }
	for _, c := range []struct {
		what       string
		g          graph.Graph
		plain, all int
	}{
		{"numbers", full(num("const", 1), upon), 1, 3},
		{"parameters", full(num("param", 0), upon), 0, api.MaxNodes},
		{"alike", full(num("param", 0), func(i int) graph.Node { return named("one", "-", 1) }), api.MaxNodes - 3, 4},
		{"needless", full(num("param", 0), func(i int) graph.Node { return num("const", i) }), api.MaxNodes - 3, 3},
	} {
		if k := fold.Plain(c.g); k != c.plain {
			t.Errorf("%s: %d, want %d", c.what, k, c.plain)
		}
		x := folded(t, c.g)
		if len(x.Nodes) > c.all {
			t.Errorf("%s: %d nodes, want %d", c.what, len(x.Nodes), c.all)
		}
		same(t, c.g, x, []int{3}, nil, 0)
	}
}

// backwards: the same graph, with its nodes the other way around behind start.
func backwards(g graph.Graph) graph.Graph {
	x := copied(g)
	slices.Reverse(x.Nodes[1:])
	for _, n := range x.Nodes {
		for k, i := range n.In {
			if i > 0 {
				n.In[k] = len(g.Nodes) - i
			}
		}
	}
	return x
}

// P1: values that stand behind those who have them are settled all the same.
func TestFoldBackwards(t *testing.T) {
	g := of(1, node("start"), num("param", 0), num("const", 2), num("const", 3), named("two", "*", 2, 3), named("two", "+", 1, 4), num("const", 6), named("two", "+", 6, 1), named("two", "<<", 5, 7), node("return", 0, 8))
	for _, x := range []graph.Graph{g, backwards(g)} {
		y := folded(t, x)
		if len(y.Nodes) != 6 {
			t.Error(text(y))
		}
		same(t, x, y, []int{4}, nil, 0)
	}
}

// P2, P3, P4: the same is made of the same, in new memory, of what is only read, to its length.
func TestFoldMemory(t *testing.T) {
	g := of(2, node("start"), num("param", 1), num("param", 0), num("const", 1), named("two", "+", 2, 1), named("two", "+", 1, 2), named("two", "+", 3, 3), node("region", 0, 12), node("phi", 7, 4, 6), node("tick", 7), node("if", 9, 8), node("no", 10), node("yes", 10), named("call", "h", 11, 5, 4, 8), node("return", 13, 8))
	for i, n := range g.Nodes {
		g.Nodes[i].In = append(slices.Clone(n.In), -5)[:len(n.In)]
	}
	before := copied(g)
	first := folded(t, g)
	want := text(first)
	var group sync.WaitGroup
	for range 20 {
		group.Go(func() {
			x, err := fold.Fold(g)
			if err != nil || text(x) != want || fold.Plain(g) != 1 {
				t.Error("another one")
			}
		})
	}
	group.Wait()
	second := folded(t, g)
	for i := range second.Nodes {
		in := second.Nodes[i].In
		for k := range in[:cap(in)] {
			in[:cap(in)][k] = -1
		}
		for _, n := range second.Nodes[i+1:] {
			if slices.Contains(n.In, -1) {
				t.Fatal("two lists share their memory")
			}
		}
		second.Nodes[i].Kind = ""
	}
	for _, n := range g.Nodes {
		if n.In[:len(n.In)+1][len(n.In)] != -5 {
			t.Error("it was changed behind its length")
		}
	}
	if text(g) != text(before) || text(first) != want {
		t.Error("it was changed")
	}
	g.Nodes[3].Num, g.Nodes[13].In[1] = 9, 1
	if text(first) != want {
		t.Error("it was kept")
	}
	short := of(1, node("start"), num("param", 0), node("return", 0, 1), num("const", 7))
	short.Nodes = short.Nodes[:3]
	if x := folded(t, short); len(x.Nodes) != 3 || fold.Plain(short) != 0 {
		t.Error(text(x))
	}
}
