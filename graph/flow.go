package graph

// spot: a number of a node's In.
type spot struct {
	node, in int
}

// flow: how the ways of a graph that is well go on. Each list goes by the numbers of nodes.
type flow struct {
	Graph
	takers []spot  // where the way that comes out is taken
	yes    []int   // of an if
	no     []int   // of an if
	phis   [][]int // of a region
}

func newFlow(g Graph) *flow {
	many := len(g.Nodes)
	f := &flow{Graph: g, takers: make([]spot, many), yes: make([]int, many), no: make([]int, many), phis: make([][]int, many)}
	for i, n := range g.Nodes {
		s := shapeOf(n.Kind)
		for k, from := range n.In {
			if s.due(k) == 'w' {
				f.takers[from] = spot{i, k}
			}
		}
		switch n.Kind {
		case "yes":
			f.yes[n.In[0]] = i
		case "no":
			f.no[n.In[0]] = i
		case "phi":
			f.phis[n.In[0]] = append(f.phis[n.In[0]], i)
		}
	}
	return f
}

// asked: the values for which a node asks when it is come to at a number of its In. A region's phis are what asks there.
func (f *flow) asked(s spot) []int {
	n := f.Nodes[s.node]
	if n.Kind != "region" {
		return n.In[1:]
	}
	var list []int
	for _, phi := range f.phis[s.node] {
		list = append(list, f.Nodes[phi].In[1+s.in])
	}
	return list
}
