package graph_test

import (
	"fmt"
	"math/rand"
	"slices"
	"testing"

	"kelpforest/graph"
	"kelpforest/lex"
	"kelpforest/tree"
	"kelpforest/val"
)

func parse(t *testing.T, s string) []tree.Fun {
	t.Helper()
	l, err := lex.Read(s)
	if err != nil {
		t.Fatalf("Read(%q): %v", s, err)
	}
	p, err := tree.Parse(l)
	if err != nil {
		t.Fatalf("Parse(%q): %v", s, err)
	}
	return p
}

// node without Num and Name.
func node(kind string, in ...int) graph.Node { return graph.Node{Kind: kind, In: in} }

func named(kind, name string, in ...int) graph.Node {
	return graph.Node{Kind: kind, Name: name, In: in}
}

func num(kind string, k int) graph.Node { return graph.Node{Kind: kind, Num: k} }

// of: a graph with so many parameters.
func of(params int, l ...graph.Node) graph.Graph {
	return graph.Graph{Name: "f", Params: params, Nodes: l}
}

// copied: a graph in memory of its own.
func copied(g graph.Graph) graph.Graph {
	g.Nodes = slices.Clone(g.Nodes)
	for i := range g.Nodes {
		g.Nodes[i].In = slices.Clone(g.Nodes[i].In)
	}
	return g
}

// text of a graph, for what a test tells.
func text(g graph.Graph) string {
	s := fmt.Sprintf("%s of %d\n", g.Name, g.Params)
	for i, n := range g.Nodes {
		s += fmt.Sprintln(i, n.Kind, n.In, n.Num, n.Name)
	}
	return s
}

// sum: adds up a parameter, and what is below it, and prints sums; with nodes of all kinds but a one.
func sum() graph.Graph {
	return of(1,
		node("start"),
		num("param", 0),
		num("const", 0),
		num("const", 1),
		node("region", 0, 10),
		node("phi", 4, 1, 11),
		node("phi", 4, 2, 12),
		node("tick", 4),
		node("if", 7, 5),
		node("yes", 8),
		node("print", 14, 12),
		named("two", "-", 5, 3),
		named("two", "+", 6, 5),
		node("no", 8),
		named("call", "h", 9, 5, 6),
		node("return", 13, 6),
	)
}

// maker of graphs by chance.
type maker struct {
	*rand.Rand
	graph.Graph
	open   []int // ways that nobody takes as yet
	values []int
	plain  int // the first so many of them are parameters and numbers
}

func (m *maker) add(n graph.Node) int {
	m.Nodes = append(m.Nodes, n)
	return len(m.Nodes) - 1
}

// way: one of those that are open, which it is then no more.
func (m *maker) way() int {
	i := m.Intn(len(m.open))
	w := m.open[i]
	m.open = slices.Delete(m.open, i, i+1)
	return w
}

// pick a value; mostly one that is always there, for with any of them most walks are stuck.
func (m *maker) pick() int {
	if m.Intn(4) > 0 {
		return m.values[m.Intn(m.plain)]
	}
	return m.values[m.Intn(len(m.values))]
}

// control: a node more.
func (m *maker) control() {
	switch w := m.way(); m.Intn(7) {
	case 0:
		m.open = append(m.open, m.add(node("tick", w)))
	case 1:
		m.open = append(m.open, m.add(node("print", w, 0)))
	case 2:
		c := m.add(named("call", []string{"h", "k"}[m.Intn(2)], slices.Concat([]int{w}, make([]int, m.Intn(3)))...))
		m.open = append(m.open, c)
		m.values = append(m.values, c)
	case 3, 4:
		i := m.add(node("if", w, 0))
		m.open = append(m.open, m.add(node("yes", i)), m.add(node("no", i)))
	default:
		r := m.add(node("region", w))
		for len(m.open) > 0 && m.Intn(2) == 0 {
			m.push(r, m.way())
		}
		m.open = append(m.open, r)
	}
}

func (m *maker) push(node, i int) { m.Nodes[node].In = append(m.Nodes[node].In, i) }

// close what is open: by returns, or by loops.
func (m *maker) close() {
	var regions []int
	for i, n := range m.Nodes {
		if n.Kind == "region" {
			regions = append(regions, i)
		}
	}
	for len(m.open) > 0 {
		w := m.way()
		if len(regions) > 0 && m.Intn(2) == 0 {
			m.push(regions[m.Intn(len(regions))], w)
		} else {
			m.add(node("return", w, 0))
		}
	}
}

// fill in the values that nodes ask for.
func (m *maker) fill() {
	for i, n := range m.Nodes {
		if n.Kind == "region" {
			for range m.Intn(3) {
				m.values = append(m.values, m.add(node("phi", slices.Concat([]int{i}, make([]int, len(n.In)))...)))
			}
		}
	}
	for range m.Intn(6) {
		v := named("one", []string{"-", "!"}[m.Intn(2)], m.pick())
		if ops := val.Ops(); m.Intn(3) > 0 {
			v = named("two", ops[m.Intn(len(ops))], m.pick(), m.pick())
		}
		m.values = append(m.values, m.add(v))
	}
	for _, n := range m.Nodes {
		switch n.Kind {
		case "print", "call", "if", "return", "phi":
			for k := range n.In[1:] {
				n.In[1+k] = m.pick()
			}
		}
	}
}

// make a graph that is well, with so many control nodes or some more.
func (m *maker) make(control int) graph.Graph {
	m.Graph = graph.Graph{Name: "f", Params: m.Intn(3)}
	m.open, m.values = []int{m.add(node("start"))}, nil
	for i := range m.Params {
		m.values = append(m.values, m.add(num("param", i)))
	}
	for range 1 + m.Intn(3) {
		m.values = append(m.values, m.add(num("const", m.Intn(4)-1)))
	}
	m.plain = len(m.values)
	for range control {
		if len(m.open) > 0 {
			m.control()
		}
	}
	m.close()
	m.fill()
	return m.shuffled(m.Graph)
}

// shuffled: the same graph, with other numbers of nodes.
func (m *maker) shuffled(g graph.Graph) graph.Graph {
	at := []int{0}
	for _, i := range m.Perm(len(g.Nodes) - 1) {
		at = append(at, i+1)
	}
	s := graph.Graph{Name: g.Name, Params: g.Params, Nodes: make([]graph.Node, len(g.Nodes))}
	for i, n := range g.Nodes {
		in := make([]int, len(n.In))
		for k, x := range n.In {
			in[k] = at[x]
		}
		n.In = in
		s.Nodes[at[i]] = n
	}
	return s
}

// broken: a graph with some of its nodes changed by chance.
func (m *maker) broken(g graph.Graph) graph.Graph {
	g = copied(g)
	for range 1 + m.Intn(2) {
		m.breakOne(&g.Nodes[m.Intn(len(g.Nodes))], len(g.Nodes))
	}
	if m.Intn(30) == 0 {
		g.Params = m.Intn(8) - 2
	}
	return g
}

func (m *maker) breakOne(n *graph.Node, nodes int) {
	kinds := []string{"start", "param", "const", "one", "two", "phi", "region", "if", "yes", "no", "tick", "print", "call", "return", "", "what"}
	switch k := m.Intn(12); {
	case k == 0:
		n.Kind = kinds[m.Intn(len(kinds))]
	case k == 1:
		n.Num = m.Intn(5) - 1
	case k == 2:
		n.Name = []string{"", "+", "-", "!", "h", "**"}[m.Intn(6)]
	case k == 3:
		n.In = append(n.In, m.Intn(nodes))
	case k == 4 && len(n.In) > 0:
		n.In = n.In[:len(n.In)-1]
	case k == 5 && len(n.In) > 0:
		n.In[m.Intn(len(n.In))] = []int{-1, nodes}[m.Intn(2)]
	case len(n.In) > 0:
		n.In[m.Intn(len(n.In))] = m.Intn(nodes)
	}
}
