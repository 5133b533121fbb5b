package graph_test

import (
	"math/rand"
	"reflect"
	"testing"

	"kelpforest/graph"
)

// P74: what is always there.
func TestSound(t *testing.T) {
	// diamond: a call on yes alone, and a phi of it; a value is asked for by some node behind the region.
	diamond := func(asks graph.Node) graph.Graph {
		return of(1, node("start"), num("param", 0), node("if", 0, 1), node("yes", 2), named("call", "h", 3), node("no", 2), node("region", 4, 5), node("phi", 6, 4, 1), named("one", "-", 7), named("one", "-", 4), asks, node("return", 10, 1))
	}
	// ring: a loop with a phi that asks for some value at the end of the loop, and another one behind it.
	ring := func(first, back, behind int) graph.Graph {
		return of(1, node("start"), num("param", 0), node("region", 0, 5), node("phi", 2, first, back), node("if", 2, 1), node("tick", 6), named("call", "h", 7), node("yes", 4), node("no", 4), named("call", "k", 8), node("return", 9, behind))
	}
	// lost: what nobody comes to asks for what is never there; it may lead into what is come to.
	lost := of(0, node("start"), num("const", 0), node("region", 0, 5), node("phi", 2, 1, 4), named("call", "h", 6), node("print", 4, 4), node("yes", 8), node("no", 8), node("if", 9, 4), node("region", 7), node("return", 2, 3))
	for _, c := range []struct {
		what string
		g    graph.Graph
		want bool
	}{
		{"least", of(0, node("start"), num("const", 0), node("return", 0, 1)), true},
		{"all kinds", sum(), true},
		{"a phi behind its region", diamond(node("print", 6, 7)), true},
		{"a phi behind its region, by a one", diamond(node("print", 6, 8)), true},
		{"a parameter", diamond(node("print", 6, 1)), true},
		{"a call of one way", diamond(node("print", 6, 4)), false},
		{"a call of one way, by a one", diamond(node("print", 6, 9)), false},
		{"by the second argument of a call", diamond(named("call", "k", 6, 1, 9)), false},
		{"an argument that is there", diamond(named("call", "k", 6, 1, 8)), true},
		{"itself", diamond(named("call", "k", 6, 1, 10)), false},
		{"a call asked for by a return behind it", of(0, node("start"), named("call", "h", 0), node("return", 1, 1)), true},
		{"a call asked for by an if ahead of it", of(0, node("start"), node("if", 0, 4), node("yes", 1), node("no", 1), named("call", "h", 2), node("return", 4, 4), node("return", 3, 7), num("const", 1)), false},
		{"a ring of the parameter", ring(1, 1, 1), true},
		{"a ring of its phi", ring(1, 3, 3), true},
		{"a ring of the call in it", ring(1, 6, 3), true},
		{"the call in it, behind it", ring(1, 6, 6), false},
		{"the call behind it", ring(1, 3, 9), true},
		{"the call behind it, at its end", ring(1, 9, 1), false},
		{"itself at first", ring(3, 1, 1), false},
		{"the call in it at first", ring(6, 1, 1), false},
		{"a phi that nobody asks for is asked all the same", ring(9, 1, 1), false},
		{"of a way that is not come to", lost, true},
		{"a phi asks for one of its own region, at the end of a way behind it", of(1, node("start"), num("param", 0), node("region", 0, 5), node("phi", 2, 1, 4), node("phi", 2, 1, 3), node("tick", 2)), true},
		{"a phi asks for one of its own region, ahead of it", of(1, node("start"), num("param", 0), node("region", 0, 5), node("phi", 2, 4, 4), node("phi", 2, 1, 3), node("tick", 2)), false},
		{"the way's own call at its end", of(0, node("start"), named("call", "h", 0), node("region", 1), node("phi", 2, 1), node("return", 2, 3)), true},
		{"the way's own region at its end", of(1, node("start"), num("param", 0), node("region", 0), node("phi", 2, 1), node("region", 2), node("phi", 4, 3), node("return", 4, 5)), true},
		{"a phi of a region behind", of(1, node("start"), num("param", 0), node("region", 0), node("phi", 2, 5), node("region", 2), node("phi", 4, 1), node("return", 4, 5)), false},
		{"a phi of what is not come to", of(0, node("start"), node("return", 0, 3), node("region", 4), node("phi", 2, 3), node("tick", 2)), false},
		{"a call that is not come to", of(0, node("start"), node("return", 0, 2), named("call", "h", 3), node("region", 2)), false},
		{"an if always goes both ways", of(0, node("start"), num("const", 1), node("if", 0, 1), node("yes", 2), node("no", 2), named("call", "h", 3), node("region", 5, 4), node("return", 6, 5)), false},
		{"on both ways another call", of(0, node("start"), num("const", 1), node("if", 0, 1), node("yes", 2), node("no", 2), named("call", "h", 3), named("call", "h", 4), node("region", 5, 6), node("phi", 7, 5, 6), node("return", 7, 8)), true},
		{"on both ways another call, crossed", of(0, node("start"), num("const", 1), node("if", 0, 1), node("yes", 2), node("no", 2), named("call", "h", 3), named("call", "h", 4), node("region", 5, 6), node("phi", 7, 6, 5), node("return", 7, 8)), false},
		{"an endless ring, nothing behind it", of(0, node("start"), node("region", 0, 1), node("phi", 1, 3, 2), num("const", 4)), true},
	} {
		if err := graph.Check(c.g); err != nil || graph.Sound(c.g) != c.want || sure(c.g) != c.want {
			t.Errorf("%s: %v, want %v (%v)", c.what, graph.Sound(c.g), c.want, err)
		}
	}
}

// P74: what is not well is not sound.
func TestNotSound(t *testing.T) {
	one := of(0, node("start"), num("const", 0), node("return", 0, 1))
	for i, g := range []graph.Graph{{}, of(0), of(5, one.Nodes...), of(-1, one.Nodes...), of(0, one.Nodes[:2]...), of(0, one.Nodes[1:]...), of(0, append(one.Nodes, node("tick", 2))...), of(0, append(one.Nodes, named("one", "-", 3))...)} {
		if graph.Sound(g) {
			t.Error(i, text(g))
		}
	}
	if !graph.Sound(one) {
		t.Error("not sound")
	}
}

// surely: by each way that is come to, the regions and calls that all who come there have come through.
type surely map[int]map[int]bool

// meet: what comes at the end of a way, beside what came there; has it changed?
func (s surely) meet(way int, came map[int]bool) bool {
	old, known := s[way]
	if !known {
		s[way] = came
		return true
	}
	changed := false
	for i := range old {
		if !came[i] {
			delete(old, i)
			changed = true
		}
	}
	return changed
}

// sure: Sound in another way: from start on, till nothing changes, by what is common to all that lead to a node.
func sure(g graph.Graph) bool {
	s := surely{0: {}}
	for changed := true; changed; {
		changed = false
		for way := range g.Nodes {
			if s[way] == nil {
				continue
			}
			to := takers(g, way)[0]
			came := map[int]bool{}
			for i := range s[way] {
				came[i] = true
			}
			switch g.Nodes[to].Kind {
			case "return":
			case "if":
				for i, n := range g.Nodes {
					if (n.Kind == "yes" || n.Kind == "no") && n.In[0] == to {
						changed = s.meet(i, copiedSet(came)) || changed
					}
				}
			default:
				came[to] = true
				changed = s.meet(to, came) || changed
			}
		}
	}
	return s.all(g)
}

func copiedSet(from map[int]bool) map[int]bool {
	to := map[int]bool{}
	for i := range from {
		to[i] = true
	}
	return to
}

func (s surely) all(g graph.Graph) bool {
	for way, came := range s {
		to := takers(g, way)[0]
		n := g.Nodes[to]
		if n.Kind != "region" {
			for _, v := range n.In[1:] {
				if !there(g, v, came) {
					return false
				}
			}
			continue
		}
		for k, x := range n.In {
			for _, p := range g.Nodes {
				if x == way && p.Kind == "phi" && p.In[0] == to && !there(g, p.In[1+k], came) {
					return false
				}
			}
		}
	}
	return true
}

func there(g graph.Graph, v int, came map[int]bool) bool {
	switch n := g.Nodes[v]; n.Kind {
	case "call":
		return came[v]
	case "phi":
		return came[n.In[0]]
	case "one":
		return there(g, n.In[0], came)
	case "two":
		return there(g, n.In[0], came) && there(g, n.In[1], came)
	}
	return true
}

// P74, P75: graphs by chance, under two numberings; who is sound is stuck by nothing but too many ways.
func TestSoundByChance(t *testing.T) {
	m := &maker{Rand: rand.New(rand.NewSource(74))}
	seen := map[bool]int{}
	for range 20000 {
		g := m.make(m.Intn(16))
		before := copied(g)
		want := sure(g)
		seen[want]++
		if graph.Sound(g) != want || graph.Sound(m.shuffled(g)) != want {
			t.Fatalf("want %v\n%s", want, text(g))
		}
		if !reflect.DeepEqual(g, before) {
			t.Fatal("it was changed")
		}
		for range 4 {
			d, _ := walkedBy(g, m.numbers(g.Params), m.numbers(m.Intn(9)), m.Intn(9), 200)
			if want && d.How == "stuck" {
				t.Fatalf("%s\n%s", told(d), text(g))
			}
			seen[want]++
		}
	}
	if seen[true] < 5000 || seen[false] < 5000 {
		t.Error(seen)
	}
}
