package place_test

import (
	"math/rand"
	"reflect"
	"slices"
	"strconv"
	"strings"
	"testing"

	"kelpforest/api"
	"kelpforest/fold"
	"kelpforest/graph"
	"kelpforest/lex"
	"kelpforest/place"
	"kelpforest/val"
)

// writer of functions by chance, as text. Its variables are a to e, of which a, b and c are parameters.
type writer struct {
	*rand.Rand
}

func (w *writer) name() string { return string(rune('a' + w.Intn(5))) }

func (w *writer) expr(deep int) string {
	ops := val.Ops()
	switch n := w.Intn(12); {
	case n < 3 || deep == 0 && n < 5:
		return strconv.Itoa(w.Intn(4))
	case n < 6 || deep == 0:
		return w.name()
	case n < 7:
		return []string{"-", "!"}[w.Intn(2)] + "(" + w.expr(deep-1) + ")"
	case n < 8:
		return "h(" + w.expr(deep-1) + ", " + w.expr(deep-1) + ")"
	}
	return "(" + w.expr(deep-1) + ") " + ops[w.Intn(len(ops))] + " (" + w.expr(deep-1) + ")"
}

func (w *writer) block(deep int) string {
	s := ""
	for range 1 + w.Intn(4) {
		s += w.stmt(deep)
	}
	return s
}

func (w *writer) stmt(deep int) string {
	switch n := w.Intn(10); {
	case n < 2 && deep > 0:
		return "if " + w.expr(2) + " { " + w.block(deep-1) + "} else { " + w.block(deep-1) + "} "
	case n < 4 && deep > 0:
		v := w.name()
		return "while 0 < " + v + " { " + w.block(deep-1) + v + " = " + v + " - 1; } "
	case n < 7:
		return w.name() + " = " + w.expr(3) + "; "
	case n < 9:
		return "print " + w.expr(3) + "; "
	case w.Intn(4) == 0:
		return "return " + w.expr(2) + "; "
	}
	return w.name() + " = " + w.name() + "; "
}

// fun: one that a text may have.
func (w *writer) fun() string {
	for {
		s := "fn f(a, b, c) { var d = 2 * 3; var e = a; " + w.block(3) + "}"
		if _, err := lex.Read(s); err == nil {
			return s
		}
	}
}

func (w *writer) numbers(many int) []int {
	l := make([]int, many)
	for i := range l {
		l[i] = w.Intn(7) - 2
	}
	return l
}

// enough: are there enough of each kind that a test asks for?
func enough(t *testing.T, seen map[string]int, least int, kinds ...string) {
	t.Helper()
	for _, kind := range kinds {
		if seen[kind] < least {
			t.Errorf("too few that are %s: %v", kind, seen)
		}
	}
}

// P93, P94: functions by chance, as they are and better.
func TestPlaceByChance(t *testing.T) {
	w := &writer{Rand: rand.New(rand.NewSource(93))}
	seen := map[string]int{}
	for range 1500 {
		g := build(t, w.fun())
		g.Name = "name" + strconv.Itoa(w.Intn(9))
		better, err := fold.Fold(g)
		if err != nil {
			t.Fatal(err)
		}
		for _, x := range []graph.Graph{g, better, w.shuffled(better)} {
			c := placed(t, x)
			for range 3 {
				d := same(t, x, c, w.numbers(3), w.numbers(w.Intn(12)), w.Intn(40))
				seen[d.How]++
				if d.Ticks > 4 && len(d.Out) > 2 && len(d.Calls) > 1 {
					seen["long "+d.How]++
				}
			}
		}
	}
	enough(t, seen, 100, "done", "over", "long done", "long over")
}

// shuffled: the same graph, with other numbers of nodes.
func (w *writer) shuffled(g graph.Graph) graph.Graph {
	at := []int{0}
	for _, i := range w.Perm(len(g.Nodes) - 1) {
		at = append(at, i+1)
	}
	s := graph.Graph{Name: g.Name, Params: g.Params, Nodes: make([]graph.Node, len(g.Nodes))}
	for i, n := range g.Nodes {
		in := make([]int, len(n.In))
		for k, x := range n.In {
			in[k] = at[x]
		}
		n.In = in
		s.Nodes[at[i]] = n
	}
	return s
}

// maker of sound graphs by chance, whose ways go as no function's do.
type maker struct {
	writer
	graph.Graph
	open   []int       // ways that nobody takes as yet
	values []int       // all that there are
	hangs  map[int]set // of each value, the regions and calls on which it hangs
	came   map[int]set // of each way that is come to, the regions and calls through which all come to it
}

func (m *maker) add(n graph.Node) int {
	m.Nodes = append(m.Nodes, n)
	return len(m.Nodes) - 1
}

// way: one of those that are open, which it is then no more.
func (m *maker) way() int {
	i := m.Intn(len(m.open))
	w := m.open[i]
	m.open = slices.Delete(m.open, i, i+1)
	return w
}

// control: a node more, or two.
func (m *maker) control() {
	switch w := m.way(); m.Intn(8) {
	case 0:
		m.open = append(m.open, m.add(node("tick", w)))
	case 1:
		m.open = append(m.open, m.add(node("print", w, 0)))
	case 2:
		m.open = append(m.open, m.add(named("call", []string{"h", "k"}[m.Intn(2)], slices.Concat([]int{w}, make([]int, m.Intn(3)))...)))
	case 3, 4, 5:
		i := m.add(node("if", w, 0))
		m.open = append(m.open, m.add(node("yes", i)), m.add(node("no", i)))
	default:
		r := m.add(node("region", w))
		for len(m.open) > 0 && m.Intn(2) == 0 {
			m.push(r, m.way())
		}
		m.open = append(m.open, r)
	}
}

func (m *maker) push(node, i int) { m.Nodes[node].In = append(m.Nodes[node].In, i) }

func (m *maker) all(kind string) []int {
	var l []int
	for i, n := range m.Nodes {
		if n.Kind == kind {
			l = append(l, i)
		}
	}
	return l
}

// lose: ways that nobody comes to, one of which may lead to a region that is come to.
func (m *maker) lose() {
	r := m.add(node("region"))
	c := m.add(named("call", "h", r, 0))
	i := m.add(node("if", c, 0))
	m.push(r, m.add(node("yes", i)))
	m.open = append(m.open, m.add(node("no", i)))
}

// close what is open: by returns, or by loops, mostly with a tick.
func (m *maker) close() {
	regions := m.all("region")
	for len(m.open) > 0 {
		w := m.way()
		if len(regions) == 0 || m.Intn(3) == 0 {
			m.add(node("return", w, 0))
			continue
		}
		if m.Intn(20) > 0 {
			w = m.add(node("tick", w))
		}
		m.push(regions[m.Intn(len(regions))], w)
	}
}

// taker of a way, and the number of its In.
func (m *maker) taker(way int) (int, int) {
	for i, n := range m.Nodes {
		for k, x := range n.In {
			if x == way && n.Kind != "yes" && n.Kind != "no" && (k == 0 && n.Kind != "phi" || n.Kind == "region") {
				return i, k
			}
		}
	}
	return -1, -1
}

// follow all ways till it is known through what all come.
func (m *maker) follow() {
	m.came = map[int]set{0: {}}
	for changed := true; changed; {
		changed = false
		for way := range m.Nodes {
			if m.came[way] == nil {
				continue
			}
			to, _ := m.taker(way)
			for next, n := range m.Nodes {
				arm := (n.Kind == "yes" || n.Kind == "no") && n.In[0] == to
				if !arm && (next != to || n.Kind == "if" || n.Kind == "return") {
					continue
				}
				now := set{}
				for x := range m.came[way] {
					if old := m.came[next]; old == nil || old[x] {
						now[x] = true
					}
				}
				if n.Kind == "region" || n.Kind == "call" {
					now[next] = true
				}
				if m.came[next] == nil || len(now) < len(m.came[next]) {
					m.came[next] = now
					changed = true
				}
			}
		}
	}
}

// value, that hangs on what the others hang on, and on one thing more, if that is not below 0.
func (m *maker) value(v int, on int, others ...int) {
	hangs := set{}
	if on >= 0 {
		hangs[on] = true
	}
	for _, o := range others {
		for x := range m.hangs[o] {
			hangs[x] = true
		}
	}
	m.values, m.hangs[v] = append(m.values, v), hangs
}

// float: params, consts, phis and calls, and ones and twos of any of these.
func (m *maker) float() {
	m.values, m.hangs = nil, map[int]set{}
	for i := range m.Params {
		m.value(m.add(num("param", i)), -1)
	}
	m.value(m.add(num("const", m.Intn(4)-1)), -1)
	for _, c := range m.all("call") {
		m.value(c, c)
	}
	for _, r := range m.all("region") {
		for range m.Intn(4) {
			m.value(m.add(node("phi", slices.Concat([]int{r}, make([]int, len(m.Nodes[r].In)))...)), r)
		}
	}
	ops := val.Ops()
	for range 2 + m.Intn(15) {
		a, b := m.values[m.Intn(len(m.values))], m.values[m.Intn(len(m.values))]
		if m.Intn(4) == 0 {
			m.value(m.add(named("one", []string{"-", "!"}[m.Intn(2)], a)), -1, a)
			continue
		}
		m.value(m.add(named("two", ops[m.Intn(len(ops))], a, b)), -1, a, b)
	}
}

// pick a value that is there at the end of a way; mostly one that hangs on as much as may be. Where nobody comes to, any.
func (m *maker) pick(way int) int {
	best, most := -1, -1
	for _, i := range m.Perm(len(m.values)) {
		v := m.values[i]
		there := true
		for x := range m.hangs[v] {
			there = there && m.came[way][x]
		}
		if m.came[way] == nil {
			return v
		}
		if there && len(m.hangs[v]) > most {
			best, most = v, len(m.hangs[v])
			if m.Intn(3) == 0 {
				return best
			}
		}
	}
	return best
}

// fill in the values that nodes ask for.
func (m *maker) fill() {
	for _, n := range m.Nodes {
		switch n.Kind {
		case "print", "call", "if", "return":
			for k := range n.In[1:] {
				n.In[1+k] = m.pick(n.In[0])
			}
		case "phi":
			for k, way := range m.Nodes[n.In[0]].In {
				n.In[1+k] = m.pick(way)
			}
		}
	}
}

func (m *maker) make(control int) graph.Graph {
	m.Graph = graph.Graph{Name: "f", Params: m.Intn(3)}
	m.open = []int{m.add(node("start"))}
	for range control {
		if len(m.open) > 0 {
			m.control()
		}
	}
	if m.Intn(4) == 0 {
		m.lose()
	}
	m.close()
	m.follow()
	m.float()
	m.fill()
	return m.shuffled(m.Graph)
}

// P93, P94: sound graphs by chance.
func TestPlaceGraphsByChance(t *testing.T) {
	m := &maker{writer: writer{Rand: rand.New(rand.NewSource(94))}}
	seen := map[string]int{}
	for range 6000 {
		g := m.make(m.Intn(20))
		if !graph.Sound(g) {
			t.Fatalf("%v\n%s", graph.Check(g), graphText(g))
		}
		c := placed(t, g)
		if len(c.Blocks) > 8 {
			seen["large"]++
		}
		for range 4 {
			d := same(t, g, c, m.numbers(g.Params), m.numbers(m.Intn(12)), m.Intn(20))
			seen[d.How]++
			if d.Ticks+len(d.Out)+len(d.Calls) > 5 {
				seen["long "+d.How]++
			}
			if d.How == "stuck" {
				break
			}
		}
	}
	enough(t, seen, 100, "large", "done", "over", "long done", "long over")
}

// broken: a graph with some numbers of its Ins changed by chance, and seldom another thing.
func (w *writer) broken(g graph.Graph) graph.Graph {
	g.Nodes = slices.Clone(g.Nodes)
	for i := range g.Nodes {
		g.Nodes[i].In = slices.Clone(g.Nodes[i].In)
	}
	for range 1 + w.Intn(3) {
		n := &g.Nodes[w.Intn(len(g.Nodes))]
		switch k := w.Intn(40); {
		case k == 0:
			n.Kind = g.Nodes[w.Intn(len(g.Nodes))].Kind
		case k == 1:
			n.Num++
		case k == 2:
			n.Name = []string{"", "+", "-", "h", "**"}[w.Intn(5)]
		case k == 3:
			n.In = append(n.In, w.Intn(len(g.Nodes)))
		case k == 4:
			g.Params = w.Intn(8) - 2
		case len(n.In) > 0:
			n.In[w.Intn(len(n.In))] = w.Intn(len(g.Nodes)+2) - 1
		}
	}
	return g
}

// P1, P93: graphs that may be well, or sound, or not.
func TestPlaceBroken(t *testing.T) {
	m := &maker{writer: writer{Rand: rand.New(rand.NewSource(95))}}
	seen := map[string]int{}
	for range 600 {
		whole := m.make(m.Intn(12))
		if m.Intn(2) == 0 {
			whole = build(t, m.fun())
		}
		for range 20 {
			g := m.broken(whole)
			want := graph.Check(g)
			if want == nil && !graph.Sound(g) {
				want = api.ErrNone
				seen["not sound"]++
			}
			if want != nil {
				c, err := place.Place(g)
				if !reflect.DeepEqual(err, want) || !reflect.DeepEqual(c, place.Code{}) {
					t.Fatalf("%v, want %v\n%s", err, want, graphText(g))
				}
				seen[strings.TrimPrefix(want.Error(), "kelpforest: ")]++
				continue
			}
			seen["sound"]++
			same(t, g, placed(t, g), m.numbers(g.Params), m.numbers(m.Intn(12)), m.Intn(20))
		}
	}
	enough(t, seen, 100, "not sound", "sound", "bound", "shape", "none")
}
