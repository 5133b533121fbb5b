package graph_test

import (
	"fmt"
	"math"
	"math/rand"
	"reflect"
	"slices"
	"testing"

	"kelpforest/api"
	"kelpforest/graph"
	"kelpforest/val"
)

// told: how a walk ended, as text.
func told(d graph.Done) string {
	if len(d.Out) > 20 {
		return fmt.Sprint(d.How, " ", d.Value, " ", d.Ticks, " ", len(d.Out), " numbers to ", d.Out[len(d.Out)-1], " ", d.Calls)
	}
	return fmt.Sprint(d.How, " ", d.Value, " ", d.Ticks, " ", d.Out, " ", d.Calls)
}

// walk of a test.
type walk struct {
	what    string
	g       graph.Graph
	args    []int
	answers []int
	ticks   int
	want    string
}

func walks(t *testing.T, l []walk) {
	t.Helper()
	for _, c := range l {
		if err := graph.Check(c.g); err != nil {
			t.Errorf("%s: %v", c.what, err)
		}
		if s := told(graph.Walk(c.g, c.args, c.answers, c.ticks)); s != c.want {
			t.Errorf("%s: of %v with %v and %d ticks: %s, want %s", c.what, c.args, c.answers, c.ticks, s, c.want)
		}
	}
}

// P72: way by way.
func TestWalk(t *testing.T) {
	straight := of(2, node("start"), num("param", 1), num("param", 0), named("two", "-", 2, 1), named("one", "!", 3), node("print", 0, 3), node("print", 5, 4), node("tick", 6), node("return", 7, 2))
	branch := of(1, node("start"), num("param", 0), node("if", 0, 1), node("no", 2), node("yes", 2), node("return", 3, 1), num("const", 5), node("return", 4, 6))
	calls := of(1, node("start"), num("param", 0), named("call", "h", 0, 1), named("call", "k", 2), named("call", "h", 3, 3, 2, 1), named("two", "-", 4, 2), node("return", 4, 5))
	walks(t, []walk{
		{"straight", straight, []int{7, 3}, nil, 1, "done 7 1 [4 0] []"},
		{"straight", straight, []int{3, 3}, []int{9}, 5, "done 3 1 [0 1] []"},
		{"straight", straight, []int{7, 3}, nil, 0, "over 0 0 [4 0] []"},
		{"straight", straight, []int{7, 3}, nil, -1, "over 0 0 [4 0] []"},
		{"straight", straight, []int{7, 3}, nil, math.MinInt, "over 0 0 [4 0] []"},
		{"straight", straight, []int{7, 3}, nil, math.MaxInt, "done 7 1 [4 0] []"},
		{"too few args", straight, []int{7}, nil, 1, "stuck 0 0 [] []"},
		{"too many args", straight, []int{7, 8, 9}, nil, 1, "stuck 0 0 [] []"},
		{"no args", branch, nil, nil, 1, "stuck 0 0 [] []"},
		{"yes", branch, []int{1}, nil, 0, "done 5 0 [] []"},
		{"yes", branch, []int{math.MinInt}, nil, 0, "done 5 0 [] []"},
		{"no", branch, []int{0}, nil, 0, "done 0 0 [] []"},
		{"calls", calls, []int{4}, []int{10, 20, 30}, 0, "done 20 0 [] [{h [4]} {k []} {h [20 10 4]}]"},
		{"calls", calls, []int{4}, []int{10, 20, 30, 40}, 0, "done 20 0 [] [{h [4]} {k []} {h [20 10 4]}]"},
		{"calls", calls, []int{4}, []int{10, 20}, 0, "over 0 0 [] [{h [4]} {k []}]"},
		{"calls", calls, []int{4}, []int{10}, 0, "over 0 0 [] [{h [4]}]"},
		{"calls", calls, []int{4}, nil, 9, "over 0 0 [] []"},
	})
}

// P72: loops: phis, ticks, and a call in each turn.
func TestLoop(t *testing.T) {
	walks(t, []walk{
		{"sum", sum(), []int{3}, []int{1, 2, 3}, 9, "done 6 4 [3 5 6] [{h [3 0]} {h [2 3]} {h [1 5]}]"},
		{"sum", sum(), []int{3}, []int{1, 2, 3}, 4, "done 6 4 [3 5 6] [{h [3 0]} {h [2 3]} {h [1 5]}]"},
		{"sum", sum(), []int{3}, []int{1, 2, 3}, 3, "over 0 3 [3 5 6] [{h [3 0]} {h [2 3]} {h [1 5]}]"},
		{"sum", sum(), []int{3}, []int{1, 2}, 4, "over 0 3 [3 5] [{h [3 0]} {h [2 3]}]"},
		{"sum", sum(), []int{3}, nil, 2, "over 0 1 [] []"},
		{"sum", sum(), []int{3}, nil, 0, "over 0 0 [] []"},
		{"sum", sum(), []int{0}, nil, 1, "done 0 1 [] []"},
	})
	swap := of(2, node("start"), num("param", 0), num("param", 1), node("region", 7, 0), node("phi", 3, 5, 1), node("phi", 3, 4, 2), node("print", 3, 4), node("tick", 6))
	last := of(0, node("start"), num("const", 1), node("region", 0, 6), node("phi", 2, 1, 4), named("two", "+", 3, 3), node("tick", 2), node("print", 5, 4))
	past := of(1, node("start"), num("param", 0), num("const", 1), node("region", 0, 9), node("phi", 3, 1, 5), named("two", "-", 4, 2), node("phi", 3, 2, 4), node("tick", 3), node("if", 7, 4), node("yes", 8), node("no", 8), node("return", 10, 6))
	again := of(0, node("start"), node("region", 0, 3), named("call", "h", 1), node("tick", 2), named("one", "-", 2))
	again.Nodes[3] = node("print", 2, 4)
	walks(t, []walk{
		{"at once, by the second way first", swap, []int{1, 2}, nil, 4, "over 0 4 [1 2 1 2 1] []"},
		{"a value of a phi is reckoned anew", last, nil, nil, 4, "over 0 4 [2 4 8 16] []"},
		{"what a phi was ahead", past, []int{3}, nil, 9, "done 1 4 [] []"},
		{"what a phi was ahead, at first", past, []int{0}, nil, 9, "done 1 1 [] []"},
		{"what a call got last", again, nil, []int{5, 6, 7}, 9, "over 0 0 [-5 -6 -7] [{h []} {h []} {h []}]"},
	})
}

// P72: prints to the last one that there may be.
func TestLoudWalk(t *testing.T) {
	n := api.MaxOut
	g := of(1, node("start"), num("param", 0), num("const", 1), node("region", 0, 9), node("phi", 3, 1, 5), named("two", "-", 4, 2), node("tick", 3), node("if", 6, 4), node("yes", 7), node("print", 8, 4), node("no", 7), node("return", 10, 4))
	walks(t, []walk{
		{"all", g, []int{n}, nil, 5000, fmt.Sprint("done 0 ", n+1, " ", n, " numbers to 1 []")},
		{"one more", g, []int{n + 1}, nil, 5000, fmt.Sprint("over 0 ", n+1, " ", n, " numbers to 2 []")},
		{"one more, without a tick", g, []int{n + 1}, nil, n, fmt.Sprint("over 0 ", n, " ", n, " numbers to 2 []")},
	})
}

// P72: a value that is not there: nothing of who asks is done, nor of a region's other phis.
func TestStuck(t *testing.T) {
	late := func(asks graph.Node) graph.Graph {
		return of(1, node("start"), num("param", 0), node("print", 0, 1), node("tick", 2), asks, node("print", 4, 1), named("call", "k", 5), named("one", "-", 6), node("return", 6, 1))
	}
	phis := of(1, node("start"), num("param", 0), node("region", 0, 6), node("phi", 2, 1, 3), node("phi", 2, 1, 8), node("print", 2, 3), node("print", 5, 4), node("region", 8), named("call", "k", 7))
	branch := of(1, node("start"), num("param", 0), node("if", 0, 6), node("yes", 2), node("no", 2), node("region", 3, 4), named("call", "k", 5), node("return", 6, 1))
	answer := of(0, node("start"), node("tick", 0), node("return", 1, 3), named("call", "k", 4), node("region", 3))
	walks(t, []walk{
		{"print", late(node("print", 3, 7)), []int{4}, []int{1, 2}, 9, "stuck 0 1 [4] []"},
		{"call", late(named("call", "h", 3, 1, 7)), []int{4}, []int{1, 2}, 9, "stuck 0 1 [4] []"},
		{"call without an answer", late(named("call", "h", 3, 1, 7)), []int{4}, nil, 9, "stuck 0 1 [4] []"},
		{"itself", late(named("call", "h", 3, 4)), []int{4}, []int{1, 2}, 9, "stuck 0 1 [4] []"},
		{"without a one between", late(node("print", 3, 6)), []int{4}, []int{1, 2}, 9, "stuck 0 1 [4] []"},
		{"well, where it is not asked for", late(node("print", 3, 1)), []int{4}, []int{1}, 9, "done 4 1 [4 4 4] [{k []}]"},
		{"a region's second phi, the second time", phis, []int{4}, nil, 9, "stuck 0 0 [4 4] []"},
		{"if", branch, []int{4}, []int{1}, 9, "stuck 0 0 [] []"},
		{"return", answer, nil, nil, 9, "stuck 0 1 [] []"},
	})
	tired := late(node("tick", 3))
	tired.Nodes[3] = node("print", 2, 7)
	walks(t, []walk{{"ahead of a tick that there is not", tired, []int{4}, nil, 0, "stuck 0 0 [4] []"}})
}

// P72: after 100000 ways; a way comes out of all but an if and a return.
func TestMostWays(t *testing.T) {
	answers := make([]int, 100000)
	loop := of(0, node("start"), num("const", 1), node("region", 0, 4), node("if", 5, 1), node("yes", 3), node("tick", 2), node("no", 3), node("return", 6, 1))
	// the ways of start, then in each turn of region, tick and yes, at last of region, tick and no
	turns := of(1, node("start"), num("param", 0), num("const", 1), node("region", 0, 8), node("phi", 3, 1, 5), named("two", "-", 4, 2), node("tick", 3), node("if", 6, 4), node("yes", 7), node("no", 7), node("return", 9, 2))
	longer := copied(turns)
	longer.Nodes[10].In[0] = 11
	longer.Nodes = append(longer.Nodes, node("tick", 9))
	walks(t, []walk{
		{"nothing", of(0, node("start"), node("region", 0, 1)), nil, nil, 0, "stuck 0 0 [] []"},
		{"ticks", of(0, node("start"), node("region", 0, 2), node("tick", 1)), nil, nil, 100000, "stuck 0 50000 [] []"},
		{"ticks", of(0, node("start"), node("region", 0, 2), node("tick", 1)), nil, nil, 50000, "stuck 0 50000 [] []"},
		{"ticks", of(0, node("start"), node("region", 0, 2), node("tick", 1)), nil, nil, 49999, "over 0 49999 [] []"},
		{"two ticks", of(0, node("start"), node("region", 0, 3), node("tick", 1), node("tick", 2)), nil, nil, 100000, "stuck 0 66666 [] []"},
		{"an if is no way", loop, nil, nil, 100000, "stuck 0 33333 [] []"},
		{"just as many: 1 and 3 times 33333", turns, []int{33332}, nil, 100000, "done 1 33333 [] []"},
		{"more", turns, []int{33333}, nil, 100000, "stuck 0 33333 [] []"},
		{"one more, behind the last tick", longer, []int{33332}, nil, 100000, "stuck 0 33334 [] []"},
		{"one turn fewer", longer, []int{33331}, nil, 100000, "done 1 33333 [] []"},
	})
	d := graph.Walk(of(0, node("start"), node("region", 0, 2), named("call", "h", 1)), nil, answers, 0)
	if d.How != "stuck" || len(d.Calls) != 50000 {
		t.Error(d.How, len(d.Calls))
	}
}

// walked: a walk by another way: it looks for everything anew, and keeps nothing but what phis and calls got.
type walked struct {
	g    graph.Graph
	args []int
	got  map[int]int
}

// value, or a panic where it is not there.
func (w *walked) value(i int) int {
	n := w.g.Nodes[i]
	switch n.Kind {
	case "param":
		return w.args[n.Num]
	case "const":
		return n.Num
	case "one":
		v, _ := val.One(n.Name, w.value(n.In[0]))
		return v
	case "two":
		v, _ := val.Do(n.Name, w.value(n.In[0]), w.value(n.In[1]))
		return v
	}
	v, ok := w.got[i]
	if !ok {
		panic("stuck")
	}
	return v
}

func (w *walked) phis(region, from int) {
	k := slices.Index(w.g.Nodes[region].In, from)
	now := map[int]int{}
	for i, n := range w.g.Nodes {
		if n.Kind == "phi" && n.In[0] == region {
			now[i] = w.value(n.In[1+k])
		}
	}
	for i, v := range now {
		w.got[i] = v
	}
}

func (w *walked) arm(i, v int) int {
	kind := "yes"
	if v == 0 {
		kind = "no"
	}
	return slices.IndexFunc(w.g.Nodes, func(n graph.Node) bool { return n.Kind == kind && n.In[0] == i })
}

// walkedBy: at most so many ways; it answers how many there were.
func walkedBy(g graph.Graph, args, answers []int, ticks, most int) (d graph.Done, ways int) {
	w := &walked{g: g, args: args, got: map[int]int{}}
	defer func() {
		if x := recover(); x == "stuck" {
			d.How = "stuck"
		} else if x != nil {
			panic(x)
		}
	}()
	at := 0
	for ; ways < most; ways++ {
		to := takers(g, at)[0]
		var values []int
		n := g.Nodes[to]
		switch {
		case n.Kind == "region":
			w.phis(to, at)
		default:
			for _, x := range n.In[1:] {
				values = append(values, w.value(x))
			}
		}
		at = to
		switch n.Kind {
		case "tick":
			if d.Ticks+1 > ticks {
				d.How = "over"
				return d, ways
			}
			d.Ticks++
		case "print":
			d.Out = append(d.Out, values[0])
		case "call":
			if len(d.Calls)+1 > len(answers) {
				d.How = "over"
				return d, ways
			}
			w.got[to] = answers[len(d.Calls)]
			d.Calls = append(d.Calls, graph.Call{Name: n.Name, Args: values})
		case "if":
			at = w.arm(to, values[0])
		case "return":
			d.How, d.Value = "done", values[0]
			return d, ways
		}
	}
	return d, ways
}

// alike: the same, whether a list is nil or empty.
func alike(a, b graph.Done) bool { return told(a) == told(b) && slices.Equal(a.Out, b.Out) }

// P72, P75: graphs by chance, under two numberings.
func TestWalkByChance(t *testing.T) {
	m := &maker{Rand: rand.New(rand.NewSource(72))}
	seen := map[string]int{}
	for range 20000 {
		g := m.make(m.Intn(14))
		args, answers := m.numbers(g.Params), m.numbers(m.Intn(9))
		ticks := m.Intn(12)
		want, ways := walkedBy(g, args, answers, ticks, 300)
		if want.How == "" {
			seen["endless"]++
			continue
		}
		seen[want.How]++
		if ways > 6 {
			seen["long "+want.How]++
		}
		for _, x := range []graph.Graph{g, m.shuffled(g)} {
			if d := graph.Walk(x, args, answers, ticks); !alike(d, want) {
				t.Fatalf("of %v with %v and %d ticks: %s, want %s\n%s", args, answers, ticks, told(d), told(want), text(x))
			}
		}
	}
	for _, how := range []string{"done", "over", "stuck", "long done", "long over", "long stuck"} {
		if seen[how] < 100 {
			t.Errorf("too few that are %s: %v", how, seen)
		}
	}
}

func (m *maker) numbers(many int) []int {
	l := make([]int, many)
	for i := range l {
		l[i] = m.Intn(6) - 2
	}
	return l
}

// P2, P3, P4: lists are only read, to their length, and answers are new memory.
func TestWalkMemory(t *testing.T) {
	g := of(2, node("start"), num("param", 0), num("param", 1), named("call", "h", 0, 1, 2), named("call", "k", 3, 3), node("print", 4, 2), node("print", 5, 4), node("return", 6, 3))
	args, answers := []int{5, 6, 7}, []int{8, 9, 10}
	before := copied(g)
	d := graph.Walk(g, args[:2], answers[:2], 0)
	if told(d) != "done 8 0 [6 9] [{h [5 6]} {k [8]}]" {
		t.Error(told(d))
	}
	if told(graph.Walk(g, args[:2], answers[:1], 0)) != "over 0 0 [] [{h [5 6]}]" || told(graph.Walk(g, args[:1], answers, 0)) != "stuck 0 0 [] []" {
		t.Error("behind a list's length")
	}
	d.Out[0], d.Calls[0].Args[0], d.Calls[1].Args[0] = -1, -1, -1
	if !reflect.DeepEqual(g, before) || !slices.Equal(args, []int{5, 6, 7}) || !slices.Equal(answers, []int{8, 9, 10}) {
		t.Error("what was handed over was changed")
	}
	e := graph.Walk(g, args[:2], answers[:2], 0)
	args[0], answers[0] = 0, 0
	g.Nodes[3].Name = "x"
	if told(e) != "done 8 0 [6 9] [{h [5 6]} {k [8]}]" {
		t.Error(told(e))
	}
}
