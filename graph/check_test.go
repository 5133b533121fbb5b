package graph_test

import (
	"errors"
	"math"
	"math/rand"
	"slices"
	"testing"

	"kelpforest/api"
	"kelpforest/graph"
	"kelpforest/val"
)

// toldAs: is it that error, at a node (below 0: bare)?
func toldAs(err error, at int, want error) bool {
	if want == nil || at < 0 {
		return err == want
	}
	f, ok := err.(*api.Fault)
	return ok && f.At == at && f.Err == want && errors.Is(err, want)
}

// P70, P71: what is well.
func TestWell(t *testing.T) {
	prints := of(0, node("start"), num("const", 7))
	way := 0
	for len(prints.Nodes) < api.MaxNodes-1 {
		prints.Nodes = append(prints.Nodes, node("print", way, 1))
		way = len(prints.Nodes) - 1
	}
	prints.Nodes = append(prints.Nodes, node("return", way, 1))
	if len(prints.Nodes) != api.MaxNodes {
		t.Fatal(len(prints.Nodes))
	}
	for _, c := range []struct {
		what string
		g    graph.Graph
	}{
		{"all kinds", sum()},
		{"least", of(0, node("start"), num("const", 0), node("return", 0, 1))},
		{"no return", of(0, node("start"), node("region", 0, 1))},
		{"start taken behind", of(0, node("start"), node("return", 0, 2), num("const", math.MinInt))},
		{"as many nodes as may be", prints},
		{"as many parameters as may be", of(4, node("start"), num("param", 3), node("return", 0, 1))},
		{"a parameter twice, none used", of(1, node("start"), num("const", 0), num("param", 0), num("param", 0), node("return", 0, 1))},
		{"a value that nobody asks for", of(0, node("start"), num("const", 0), named("one", "!", 1), node("return", 0, 1))},
		{"no name", graph.Graph{Nodes: []graph.Node{node("start"), num("const", 0), node("return", 0, 1)}}},
		{"a call of any name, with many values", of(0, node("start"), num("const", 0), named("call", "", 0, 1, 1, 1, 1, 1, 1), named("call", "a b", 2), node("return", 3, 2))},
		{"a call that asks for itself", of(0, node("start"), named("call", "h", 0, 1), node("return", 1, 1))},
		{"a phi that asks for itself", of(0, node("start"), node("region", 0), node("phi", 1, 2), node("return", 1, 2))},
		{"a circle through a phi", of(0, node("start"), node("region", 0), node("phi", 1, 3), named("one", "-", 2), node("return", 1, 2))},
		{"a circle through a call", of(0, node("start"), named("call", "h", 0, 2), named("one", "-", 1), node("return", 1, 2))},
		{"a region without phis, one with two", of(0, node("start"), num("const", 0), node("region", 0), node("region", 2), node("phi", 3, 1), node("phi", 3, 1), node("return", 3, 4))},
		{"nodes to which nobody comes", of(0, node("start"), num("const", 0), node("return", 0, 1), node("region", 4), node("print", 3, 1))},
		{"an if with both ways into one region", of(0, node("start"), num("const", 0), node("if", 0, 1), node("no", 2), node("yes", 2), node("region", 4, 3), node("return", 5, 1))},
		{"an empty list for nil", of(0, graph.Node{Kind: "start", In: []int{}}, graph.Node{Kind: "const", In: []int{}}, node("return", 0, 1))},
	} {
		if err := graph.Check(c.g); err != nil {
			t.Errorf("%s: %v, %v", c.what, err, err.(*api.Fault).At)
		}
	}
}

// P71: of the whole graph, each error ahead of those behind it.
func TestWholeErrors(t *testing.T) {
	many := of(9, make([]graph.Node, api.MaxNodes+1)...)
	with := func(g graph.Graph, params int) graph.Graph {
		g.Params = params
		return g
	}
	for _, c := range []struct {
		what string
		g    graph.Graph
		want error
	}{
		{"too many nodes, and nothing else is well", many, api.ErrFull},
		{"as many as may be, none is a start", with(of(0, many.Nodes[1:]...), 9), api.ErrShape},
		{"none", graph.Graph{}, api.ErrShape},
		{"none", graph.Graph{Params: -1, Nodes: []graph.Node{}}, api.ErrShape},
		{"no start", of(5, num("const", 1), node("start")), api.ErrShape},
		{"no kind", of(0, graph.Node{}), api.ErrShape},
		{"params", with(sum(), 5), api.ErrArgs},
		{"params", with(sum(), -1), api.ErrArgs},
		{"params", with(sum(), math.MaxInt), api.ErrArgs},
		{"params ahead of nodes", of(5, node("start", 3), graph.Node{}), api.ErrArgs},
		{"params", with(sum(), 4), nil},
	} {
		if err := graph.Check(c.g); err != c.want {
			t.Errorf("%s: %v, want %v", c.what, err, c.want)
		}
	}
}

// P71: of each node.
func TestNodeErrors(t *testing.T) {
	for _, c := range []struct {
		what string
		at   int
		n    graph.Node
		want error
	}{
		{"no kind", 3, node(""), api.ErrKind},
		{"no kind", 3, graph.Node{Kind: "Const", In: []int{-1}, Num: 1, Name: "a"}, api.ErrKind},
		{"no kind", 15, node("returns", 13, 6), api.ErrKind},
		{"another start", 3, node("start"), api.ErrShape},
		{"another start", 15, node("start", 99), api.ErrShape},
		{"start", 0, node("start", 0), api.ErrShape},
		{"start", 0, num("start", 1), api.ErrShape},
		{"start", 0, named("start", "f"), api.ErrShape},
		{"param", 1, node("param", 2), api.ErrShape},
		{"param", 1, named("param", "a"), api.ErrShape},
		{"param", 1, graph.Node{Kind: "param", Num: 1, Name: "a"}, api.ErrShape},
		{"param", 1, num("param", 1), api.ErrBound},
		{"param", 1, num("param", -1), api.ErrBound},
		{"const", 2, node("const", 1), api.ErrShape},
		{"const", 2, named("const", "0"), api.ErrShape},
		{"const", 2, num("const", math.MinInt), nil},
		{"one", 12, named("one", "-"), api.ErrShape},
		{"one", 12, named("one", "-", 1, 1), api.ErrShape},
		{"one", 12, graph.Node{Kind: "one", Name: "-", Num: 1, In: []int{1}}, api.ErrShape},
		{"one", 12, named("one", "+", 16), api.ErrBound},
		{"one", 12, named("one", "+", 1), api.ErrKind},
		{"one", 12, named("one", "+", 0), api.ErrKind},
		{"one", 12, named("one", "", 1), api.ErrKind},
		{"one", 12, named("one", "-", 0), api.ErrShape},
		{"one", 12, named("one", "!", 6), nil},
		{"two", 12, named("two", "+", 1), api.ErrShape},
		{"two", 12, named("two", "+", 1, 1, 1), api.ErrShape},
		{"two", 12, named("two", "!", 1, math.MinInt), api.ErrBound},
		{"two", 12, named("two", "!", 0, 1), api.ErrKind},
		{"two", 12, named("two", ">", 1, 1), api.ErrKind},
		{"two", 12, named("two", "+", 0, 1), api.ErrShape},
		{"two", 12, named("two", "+", 1, 8), api.ErrShape},
		{"two", 12, named("two", "+", 15, 1), api.ErrShape},
		{"two", 12, named("two", "+", 1, 10), api.ErrShape},
		{"phi", 5, node("phi"), api.ErrShape},
		{"phi", 5, node("phi", 4), api.ErrShape},
		{"phi", 5, node("phi", 4, 1), api.ErrShape},
		{"phi", 5, node("phi", 4, 1, 1, 1), api.ErrShape},
		{"phi", 5, node("phi", 4, 1, 16), api.ErrBound},
		{"phi", 5, node("phi", 16, 1, 1), api.ErrBound},
		{"phi", 5, node("phi", 7, 1), api.ErrShape},
		{"phi", 5, node("phi", 1, 4, 1), api.ErrShape},
		{"phi", 5, node("phi", 4, 1, 4), api.ErrShape},
		{"phi", 5, named("phi", "a", 4, 1, 11), api.ErrShape},
		{"phi", 5, graph.Node{Kind: "phi", Num: 4, In: []int{4, 1, 11}}, api.ErrShape},
		{"phi", 5, node("phi", 4, 14, 5), nil},
		{"region", 4, node("region"), api.ErrShape},
		{"region", 4, node("region", 0, -1), api.ErrBound},
		{"region", 4, node("region", 0, 8), api.ErrShape},
		{"region", 4, node("region", 0, 15), api.ErrShape},
		{"region", 4, node("region", 1, 10), api.ErrShape},
		{"region", 4, named("region", "r", 0, 10), api.ErrShape},
		{"region", 4, graph.Node{Kind: "region", Num: 2, In: []int{0, 10}}, api.ErrShape},
		{"if", 8, node("if", 7), api.ErrShape},
		{"if", 8, node("if", 7, 5, 5), api.ErrShape},
		{"if", 8, node("if", 7, 16), api.ErrBound},
		{"if", 8, node("if", 5, 5), api.ErrShape},
		{"if", 8, node("if", 7, 7), api.ErrShape},
		{"if", 8, named("if", "+", 7, 5), api.ErrShape},
		{"if", 8, node("if", 7, 14), nil},
		{"yes", 9, node("yes"), api.ErrShape},
		{"yes", 9, node("yes", 8, 8), api.ErrShape},
		{"yes", 9, node("yes", 99), api.ErrBound},
		{"yes", 9, node("yes", 7), api.ErrShape},
		{"yes", 9, graph.Node{Kind: "yes", Num: 1, In: []int{8}}, api.ErrShape},
		{"no", 13, node("no"), api.ErrShape},
		{"no", 13, node("no", 8, 8), api.ErrShape},
		{"no", 13, node("no", -1), api.ErrBound},
		{"no", 13, node("no", 9), api.ErrShape},
		{"no", 13, named("no", "n", 8), api.ErrShape},
		{"tick", 7, node("tick"), api.ErrShape},
		{"tick", 7, node("tick", 4, 1), api.ErrShape},
		{"tick", 7, node("tick", 16), api.ErrBound},
		{"tick", 7, node("tick", 5), api.ErrShape},
		{"tick", 7, graph.Node{Kind: "tick", Num: 1, In: []int{4}}, api.ErrShape},
		{"print", 10, node("print", 14), api.ErrShape},
		{"print", 10, node("print", 14, 12, 12), api.ErrShape},
		{"print", 10, node("print", 14, 99), api.ErrBound},
		{"print", 10, node("print", 12, 12), api.ErrShape},
		{"print", 10, node("print", 14, 9), api.ErrShape},
		{"print", 10, named("print", "a", 14, 12), api.ErrShape},
		{"print", 10, node("print", 14, 14), nil},
		{"call", 14, named("call", "h"), api.ErrShape},
		{"call", 14, graph.Node{Kind: "call", Name: "h", Num: 1, In: []int{9}}, api.ErrShape},
		{"call", 14, named("call", "h", 9, 5, 16), api.ErrBound},
		{"call", 14, named("call", "h", 8), api.ErrShape},
		{"call", 14, named("call", "h", 9, 5, 13), api.ErrShape},
		{"call", 14, node("call", 9), nil},
		{"return", 15, node("return", 13), api.ErrShape},
		{"return", 15, node("return", 13, 6, 6), api.ErrShape},
		{"return", 15, node("return", 13, 16), api.ErrBound},
		{"return", 15, node("return", 8, 6), api.ErrShape},
		{"return", 15, node("return", 13, 13), api.ErrShape},
		{"return", 15, graph.Node{Kind: "return", Num: 6, In: []int{13, 6}}, api.ErrShape},
		{"return", 15, node("return", 13, 14), nil},
	} {
		g := sum()
		g.Nodes[c.at] = c.n
		if err := graph.Check(g); !toldAs(err, c.at, c.want) {
			t.Errorf("%s: %v: %v, want %v", c.what, c.n, err, c.want)
		}
	}
}

// P71: the first node that is not well, in all that is asked of a node, ahead of how ways are taken, and of circles.
func TestOrderOfNodes(t *testing.T) {
	set := func(g graph.Graph, at int, n graph.Node) graph.Graph {
		g.Nodes[at] = n
		return g
	}
	for _, c := range []struct {
		what string
		g    graph.Graph
		at   int
		want error
	}{
		{"who asks for what is no node of a kind is ahead of it", set(sum(), 11, node("what")), 5, api.ErrShape},
		{"ahead of that, kind and shape", set(set(sum(), 11, node("what")), 3, node("const", 99)), 3, api.ErrShape},
		{"the first one, its last error", set(set(sum(), 9, node("yes", 7)), 15, node("what")), 9, api.ErrShape},
		{"the first one, its first error", set(set(sum(), 9, node("what")), 10, node("print", 14, 14, 14)), 9, api.ErrKind},
		{"a node ahead of ways", set(set(sum(), 7, node("tick", 0)), 15, node("return", 13, 13)), 15, api.ErrShape},
		{"a way ahead of circles", set(set(sum(), 11, named("one", "-", 11)), 15, num("const", 1)), 13, api.ErrShape},
		{"start is taken twice", set(sum(), 7, node("tick", 0)), 0, api.ErrShape},
		{"a region is not taken", set(sum(), 7, node("tick", 13)), 4, api.ErrShape},
		{"a region is taken twice by one", set(sum(), 4, node("region", 0, 0)), 0, api.ErrShape},
		{"a way is taken twice by another", set(sum(), 15, node("return", 7, 6)), 7, api.ErrShape},
		{"a call is taken twice, and asked for", set(sum(), 15, node("return", 14, 14)), 13, api.ErrShape},
		{"an if has two of yes", set(sum(), 13, node("yes", 8)), 8, api.ErrShape},
		{"an if has two of no", set(sum(), 9, node("no", 8)), 8, api.ErrShape},
		{"an if has no no", set(set(sum(), 13, num("const", 1)), 15, num("const", 1)), 8, api.ErrShape},
		{"a yes is not taken", set(sum(), 14, named("call", "h", 13)), 9, api.ErrShape},
		{"a print is not taken", set(sum(), 4, node("region", 0, 13)), 10, api.ErrShape},
		{"a call is not taken, but asked for", of(0, node("start"), named("call", "h", 0)), 1, api.ErrShape},
		{"start is not taken", of(0, node("start")), 0, api.ErrShape},
		{"a one of itself", set(sum(), 11, named("one", "-", 11)), 11, api.ErrDeep},
		{"a two of itself, by the right", set(sum(), 12, named("two", "+", 1, 12)), 12, api.ErrDeep},
		{"two of each other", set(set(sum(), 11, named("one", "-", 12)), 12, named("two", "+", 1, 11)), 11, api.ErrDeep},
		{"the least of a circle, not who asks for it", of(0, node("start"), node("return", 0, 2), named("one", "-", 5), num("const", 0), named("one", "!", 5), named("two", "+", 3, 4)), 4, api.ErrDeep},
		{"the least of two circles", of(0, node("start"), node("return", 0, 2), named("one", "-", 4), num("const", 0), named("two", "-", 5, 4), named("one", "-", 6), named("one", "-", 2)), 2, api.ErrDeep},
		{"a circle that nobody asks for", of(0, node("start"), num("const", 0), node("return", 0, 1), named("one", "-", 4), named("one", "-", 3)), 3, api.ErrDeep},
	} {
		if err := graph.Check(c.g); !toldAs(err, c.at, c.want) {
			at := -1
			if f, ok := err.(*api.Fault); ok {
				at = f.At
			}
			t.Errorf("%s: %v at %d, want %v at %d", c.what, err, at, c.want, c.at)
		}
	}
}

// P71: ops of one and of two.
func TestOps(t *testing.T) {
	for _, op := range append(val.Ops(), "!", "~", "=", "", "+ ", ">", ">=", "&&", "h") {
		_, one := val.One(op, 0)
		_, two := val.Do(op, 0, 0)
		g := of(0, node("start"), num("const", 0), node("return", 0, 3), named("one", op, 1))
		if err := graph.Check(g); !toldAs(err, 3, one) {
			t.Errorf("one %q: %v, want %v", op, err, one)
		}
		g.Nodes[3] = named("two", op, 1, 1)
		if err := graph.Check(g); !toldAs(err, 3, two) {
			t.Errorf("two %q: %v, want %v", op, err, two)
		}
	}
}

// want: which error Check tells, asked in another way: kind by kind.
func want(g graph.Graph) (int, error) {
	if len(g.Nodes) > api.MaxNodes {
		return -1, api.ErrFull
	}
	if len(g.Nodes) == 0 || g.Nodes[0].Kind != "start" {
		return -1, api.ErrShape
	}
	if g.Params < 0 || g.Params > api.MaxParams {
		return -1, api.ErrArgs
	}
	for i := range g.Nodes {
		if err := wantNode(g, i); err != nil {
			return i, err
		}
	}
	for i, n := range g.Nodes {
		if isWay(n.Kind) && len(takers(g, i)) != 1 || n.Kind == "if" && (arms(g, i, "yes") != 1 || arms(g, i, "no") != 1) {
			return i, api.ErrShape
		}
	}
	for i := range g.Nodes {
		if hangs(g, i, i, len(g.Nodes)) {
			return i, api.ErrDeep
		}
	}
	return -1, nil
}

func isWay(kind string) bool {
	return slices.Contains([]string{"start", "region", "yes", "no", "tick", "print", "call"}, kind)
}

func isValue(kind string) bool {
	return slices.Contains([]string{"param", "const", "one", "two", "phi", "call"}, kind)
}

// takers of a way: who has it where a way is due, as often as it has it.
func takers(g graph.Graph, way int) []int {
	var l []int
	for i, n := range g.Nodes {
		for k, x := range n.In {
			due := n.Kind == "region" || k == 0 && slices.Contains([]string{"if", "tick", "print", "call", "return"}, n.Kind)
			if due && x == way {
				l = append(l, i)
			}
		}
	}
	return l
}

func arms(g graph.Graph, i int, kind string) int {
	many := 0
	for _, n := range g.Nodes {
		if n.Kind == kind && n.In[0] == i {
			many++
		}
	}
	return many
}

// hangs: does a value hang on another one, in so many steps?
func hangs(g graph.Graph, v, on, steps int) bool {
	if g.Nodes[v].Kind != "one" && g.Nodes[v].Kind != "two" || steps == 0 {
		return false
	}
	for _, x := range g.Nodes[v].In {
		if x == on || hangs(g, x, on, min(steps, 8)-1) {
			return true
		}
	}
	return false
}

func wantNode(g graph.Graph, i int) error {
	n := g.Nodes[i]
	least, most := 0, 0
	switch n.Kind {
	case "start", "param", "const":
	case "one", "yes", "no", "tick":
		least, most = 1, 1
	case "two", "if", "print", "return":
		least, most = 2, 2
	case "phi", "region", "call":
		least, most = 1, math.MaxInt
	default:
		return api.ErrKind
	}
	hasNum := n.Kind == "param" || n.Kind == "const"
	hasName := n.Kind == "one" || n.Kind == "two" || n.Kind == "call"
	if n.Kind == "start" && i > 0 || len(n.In) < least || len(n.In) > most || !hasNum && n.Num != 0 || !hasName && n.Name != "" {
		return api.ErrShape
	}
	for _, x := range n.In {
		if x < 0 || x >= len(g.Nodes) {
			return api.ErrBound
		}
	}
	if n.Kind == "param" && (n.Num < 0 || n.Num >= g.Params) {
		return api.ErrBound
	}
	if n.Kind == "one" && n.Name != "-" && n.Name != "!" || n.Kind == "two" && !slices.Contains(val.Ops(), n.Name) {
		return api.ErrKind
	}
	return wantLinks(g, n)
}

func wantLinks(g graph.Graph, n graph.Node) error {
	for k, x := range n.In {
		kind := g.Nodes[x].Kind
		well := isValue(kind)
		switch {
		case n.Kind == "region", k == 0 && slices.Contains([]string{"if", "tick", "print", "call", "return"}, n.Kind):
			well = isWay(kind)
		case n.Kind == "yes", n.Kind == "no":
			well = kind == "if"
		case n.Kind == "phi" && k == 0:
			well = kind == "region"
		}
		if !well {
			return api.ErrShape
		}
	}
	if n.Kind == "phi" && len(n.In) != 1+len(g.Nodes[n.In[0]].In) {
		return api.ErrShape
	}
	return nil
}

// P71: graphs by chance, and what is broken of them.
func TestBroken(t *testing.T) {
	m := &maker{Rand: rand.New(rand.NewSource(71))}
	seen := map[error]int{}
	for range 20000 {
		g := m.make(m.Intn(12))
		if err := graph.Check(g); err != nil {
			t.Fatalf("%v\n%s", err, text(g))
		}
		b := m.broken(g)
		at, err := want(b)
		if got := graph.Check(b); !toldAs(got, at, err) {
			t.Fatalf("%v, want %v at %d\n%s", got, err, at, text(b))
		}
		seen[err]++
		if d := graph.Walk(b, make([]int, b.Params&7), nil, 3); err != nil && (graph.Sound(b) || told(d) != "stuck 0 0 [] []") {
			t.Fatalf("%s of what is not well\n%s", told(d), text(b))
		}
	}
	for _, err := range []error{nil, api.ErrShape, api.ErrArgs, api.ErrKind, api.ErrBound, api.ErrDeep} {
		if seen[err] < 30 {
			t.Errorf("too few of %v: %v", err, seen)
		}
	}
}

// P1: a chain of as many values as there may be, each asking for the next one twice, ends.
func TestLongChain(t *testing.T) {
	g := of(0, node("start"), node("return", 0, 2))
	for i := 2; i < api.MaxNodes-1; i++ {
		g.Nodes = append(g.Nodes, named("two", "+", i+1, i+1))
	}
	g.Nodes = append(g.Nodes, num("const", 1))
	if err := graph.Check(g); err != nil || !graph.Sound(g) {
		t.Error(err)
	}
	if s := told(graph.Walk(g, nil, nil, 0)); s != "done 0 0 [] []" {
		t.Error(s)
	}
	g.Nodes[api.MaxNodes-1] = named("one", "-", 500)
	if err := graph.Check(g); !toldAs(err, 500, api.ErrDeep) {
		t.Error(err)
	}
}
