package graph

import (
	"slices"
	"strings"

	"kelpforest/api"
)

// Check a graph.
func Check(g Graph) error {
	switch {
	case len(g.Nodes) > api.MaxNodes:
		return api.ErrFull
	case len(g.Nodes) == 0 || g.Nodes[0].Kind != "start":
		return api.ErrShape
	case g.Params < 0 || g.Params > api.MaxParams:
		return api.ErrArgs
	}
	c := newChecker(g)
	return firstFault(len(g.Nodes), c.node, c.taken, c.circled)
}

// firstFault asks all nodes one thing ahead of the next thing.
func firstFault(nodes int, asks ...func(i int) error) error {
	for _, ask := range asks {
		for i := range nodes {
			if err := ask(i); err != nil {
				return &api.Fault{At: i, Err: err}
			}
		}
	}
	return nil
}

// checker of a graph, with the shape of each node.
type checker struct {
	Graph
	shapes []shape
	takers map[taking]int
}

// taking of a node by those of a kind (of a way: by any).
type taking struct {
	node int
	kind string
}

func newChecker(g Graph) *checker {
	c := &checker{Graph: g, takers: map[taking]int{}}
	for _, n := range g.Nodes {
		c.shapes = append(c.shapes, shapeOf(n.Kind))
	}
	for i, n := range g.Nodes {
		c.count(n, c.shapes[i])
	}
	return c
}

func (c *checker) count(n Node, s shape) {
	if !s.fits(n) {
		return
	}
	for k, i := range n.In {
		switch s.due(k) {
		case 'w':
			c.takers[taking{node: i}]++
		case 'i':
			c.takers[taking{i, n.Kind}]++
		}
	}
}

// fits: has a node as many In as its kind, and no Num or Name that its kind has not?
func (s shape) fits(n Node) bool {
	many := len(n.In) == len(s.in) || len(n.In) > len(s.in) && s.more != ""
	return many && (s.num || n.Num == 0) && (s.name || n.Name == "")
}

func (c *checker) node(i int) error {
	n, s := c.Nodes[i], c.shapes[i]
	switch {
	case s.kind == "":
		return api.ErrKind
	case s.kind == "start" && i > 0, !s.fits(n):
		return api.ErrShape
	case !c.bounded(n):
		return api.ErrBound
	case !HasOp(n.Kind, n.Name):
		return api.ErrKind
	case !c.given(n, s), s.kind == "phi" && len(n.In)-1 != len(c.Nodes[n.In[0]].In):
		return api.ErrShape
	}
	return nil
}

func (c *checker) bounded(n Node) bool {
	for _, i := range n.In {
		if i < 0 || i >= len(c.Nodes) {
			return false
		}
	}
	return n.Kind != "param" || n.Num >= 0 && n.Num < c.Params
}

// given: is each of In what is due there?
func (c *checker) given(n Node, s shape) bool {
	for k, i := range n.In {
		if strings.IndexByte(c.shapes[i].gives, s.due(k)) < 0 {
			return false
		}
	}
	return true
}

func (c *checker) taken(i int) error {
	gives := c.shapes[i].gives
	switch {
	case strings.Contains(gives, "w") && c.takers[taking{node: i}] != 1:
		return api.ErrShape
	case gives == "i" && (c.takers[taking{i, "yes"}] != 1 || c.takers[taking{i, "no"}] != 1):
		return api.ErrShape
	}
	return nil
}

// circled: does a node's value hang on itself?
func (c *checker) circled(i int) error {
	// Who is the least one of a circle has itself in its In, or one behind it.
	if in := c.reckoned(i); len(in) == 0 || slices.Max(in) < i {
		return nil
	}
	found := false
	Visit(len(c.Nodes), []int{i}, func(at int) []int {
		in := c.reckoned(at)
		found = found || slices.Contains(in, i)
		return in
	})
	if found {
		return api.ErrDeep
	}
	return nil
}

// reckoned: of what a node's value is reckoned anew each time that it is asked for.
func (c *checker) reckoned(i int) []int {
	if c.Nodes[i].Kind == "one" || c.Nodes[i].Kind == "two" {
		return c.Nodes[i].In
	}
	return nil
}
