package fold_test

import (
	"math/rand"
	"reflect"
	"slices"
	"strconv"
	"strings"
	"testing"

	"kelpforest/fold"
	"kelpforest/graph"
	"kelpforest/lex"
	"kelpforest/val"
)

// writer of functions by chance, as text.
type writer struct {
	*rand.Rand
	vars int
}

// name of a variable that is always there.
func (w *writer) name() string { return string(rune('a' + w.Intn(w.vars))) }

// expr: of few names and numbers, so that many are alike.
func (w *writer) expr(deep int) string {
	switch n := w.Intn(12); {
	case n < 3 || deep == 0 && n < 5:
		return strconv.Itoa(w.Intn(4))
	case n < 6 || deep == 0:
		return w.name()
	case n < 7:
		return []string{"-", "!"}[w.Intn(2)] + "(" + w.expr(deep-1) + ")"
	case n < 8:
		return "h(" + w.expr(deep-1) + ", " + w.expr(deep-1) + ")"
	}
	ops := val.Ops()
	return "(" + w.expr(deep-1) + ") " + ops[w.Intn(len(ops))] + " (" + w.expr(deep-1) + ")"
}

func (w *writer) block(deep int) string {
	s := "{ "
	for range 1 + w.Intn(4) {
		s += w.stmt(deep)
	}
	return s + "} "
}

func (w *writer) stmt(deep int) string {
	switch n := w.Intn(10); {
	case n < 2 && deep > 0:
		return "if " + w.expr(2) + w.block(deep-1) + "else " + w.block(deep-1)
	case n < 4 && deep > 0:
		v := w.name()
		return "while 0 < " + v + strings.TrimSuffix(w.block(deep-1), "} ") + v + " = " + v + " - 1; } "
	case n < 7:
		return w.name() + " = " + w.expr(3) + "; "
	case n < 9:
		return "print " + w.expr(3) + "; "
	case w.Intn(4) == 0:
		return "return " + w.expr(2) + "; "
	}
	return w.name() + " = " + w.name() + "; "
}

// fun: one that a text may have. a, b and c are its parameters; d and e are variables.
func (w *writer) fun() string {
	w.vars = 5
	for {
		s := "fn f(a, b, c) { var d = 2 * 3; var e = a; " + strings.TrimPrefix(w.block(3), "{")
		if _, err := lex.Read(s); err == nil {
			return s
		}
	}
}

func (w *writer) numbers(many int) []int {
	l := make([]int, many)
	for i := range l {
		l[i] = w.Intn(7) - 2
	}
	return l
}

// wasted: a graph that does the same, with more nodes: copies of values that some ask for instead, the other way around where that is the same, and values that nobody asks for.
func (w *writer) wasted(g graph.Graph) graph.Graph {
	g = copied(g)
	for range 1 + w.Intn(10) {
		i := w.Intn(len(g.Nodes))
		n := g.Nodes[i]
		if !slices.Contains([]string{"param", "const", "one", "two"}, n.Kind) {
			continue
		}
		n.In = slices.Clone(n.In)
		if n.Kind == "two" && val.Swaps(n.Name) && w.Intn(2) == 0 {
			slices.Reverse(n.In)
		}
		g.Nodes = append(g.Nodes, n)
		for _, m := range g.Nodes {
			for k := range m.In {
				if m.In[k] == i && w.Intn(2) == 0 {
					m.In[k] = len(g.Nodes) - 1
				}
			}
		}
	}
	return w.shuffled(g)
}

// shuffled: the same graph, with other numbers of nodes.
func (w *writer) shuffled(g graph.Graph) graph.Graph {
	at := []int{0}
	for _, i := range w.Perm(len(g.Nodes) - 1) {
		at = append(at, i+1)
	}
	s := graph.Graph{Name: g.Name, Params: g.Params, Nodes: make([]graph.Node, len(g.Nodes))}
	for i, n := range g.Nodes {
		in := make([]int, len(n.In))
		for k, x := range n.In {
			in[k] = at[x]
		}
		n.In = in
		s.Nodes[at[i]] = n
	}
	return s
}

// P80, P81, P82: functions by chance, also with nodes more than they need.
func TestFoldByChance(t *testing.T) {
	w := &writer{Rand: rand.New(rand.NewSource(80))}
	seen := map[string]int{}
	for range 1500 {
		g, err := graph.Build(parse(t, w.fun()))
		if err != nil {
			t.Fatal(err)
		}
		g.Name = "name" + strconv.Itoa(w.Intn(9))
		more := w.wasted(g)
		x, y := folded(t, g), folded(t, more)
		if fold.Plain(g) != needless(g) || fold.Plain(more) != needless(more) || !graph.Sound(more) {
			t.Fatalf("%d, want %d; %d, want %d\n%s", fold.Plain(g), needless(g), fold.Plain(more), needless(more), text(g))
		}
		if len(folded(t, x).Nodes) > len(x.Nodes) || len(y.Nodes) != len(x.Nodes) {
			t.Fatalf("%d nodes, then %d\n%s%s", len(x.Nodes), len(y.Nodes), text(x), text(y))
		}
		if len(x.Nodes) < len(g.Nodes)*2/3 {
			seen["better"]++
		}
		for range 6 {
			args, answers, ticks := w.numbers(3), w.numbers(w.Intn(12)), w.Intn(40)
			d := same(t, g, x, args, answers, ticks)
			same(t, g, y, args, answers, ticks)
			seen[d.How]++
			if d.Ticks > 4 && len(d.Out) > 2 && len(d.Calls) > 1 {
				seen["long "+d.How]++
			}
		}
	}
	for _, how := range []string{"better", "done", "over", "long done", "long over"} {
		if seen[how] < 100 {
			t.Errorf("too few that are %s: %v", how, seen)
		}
	}
}

// changed: a graph with some numbers of its Ins changed by chance, and seldom another thing.
func (w *writer) changed(g graph.Graph) graph.Graph {
	g = copied(g)
	for range 1 + w.Intn(3) {
		n := &g.Nodes[w.Intn(len(g.Nodes))]
		switch k := w.Intn(40); {
		case k == 0:
			n.Kind = g.Nodes[w.Intn(len(g.Nodes))].Kind
		case k == 1:
			n.Num++
		case k == 2:
			n.Name = []string{"", "+", "-", "h", "**"}[w.Intn(5)]
		case k == 3:
			n.In = append(n.In, w.Intn(len(g.Nodes)))
		case k == 4:
			g.Params = w.Intn(8) - 2
		case len(n.In) > 0:
			n.In[w.Intn(len(n.In))] = w.Intn(len(g.Nodes)+2) - 1
		}
	}
	return g
}

// P1, P80, P81: graphs that may be well, or sound, or not.
func TestFoldChanged(t *testing.T) {
	w := &writer{Rand: rand.New(rand.NewSource(81))}
	seen := map[string]int{}
	for range 600 {
		whole, err := graph.Build(parse(t, w.fun()))
		if err != nil {
			t.Fatal(err)
		}
		for range 20 {
			g := w.changed(whole)
			if want := graph.Check(g); want != nil {
				x, err := fold.Fold(g)
				if !reflect.DeepEqual(err, want) || !reflect.DeepEqual(x, graph.Graph{}) || fold.Plain(g) != 0 {
					t.Fatalf("%v, want %v\n%s", err, want, text(g))
				}
				seen["not well"]++
				continue
			}
			x := folded(t, g)
			if fold.Plain(g) != needless(g) || len(folded(t, x).Nodes) > len(x.Nodes) {
				t.Fatalf("%d, want %d\n%s", fold.Plain(g), needless(g), text(g))
			}
			if !graph.Sound(g) {
				seen["not sound"]++
				continue
			}
			seen["sound"]++
			same(t, g, x, w.numbers(g.Params), w.numbers(w.Intn(12)), w.Intn(40))
		}
	}
	for _, what := range []string{"not well", "not sound", "sound"} {
		if seen[what] < 300 {
			t.Errorf("too few that are %s: %v", what, seen)
		}
	}
}
