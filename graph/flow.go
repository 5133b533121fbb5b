package graph

// Spot: a number of a node's In.
type Spot struct {
	Node, In int
}

// Flow: how the ways of a graph that is well go on. Each list goes by the numbers of nodes.
type Flow struct {
	Graph
	Takers []Spot  // where the way that comes out is taken
	Yes    []int   // of an if
	No     []int   // of an if
	Phis   [][]int // of a region
}

// NewFlow of a graph; Check's errors.
func NewFlow(g Graph) (*Flow, error) {
	if err := Check(g); err != nil {
		return nil, err
	}
	many := len(g.Nodes)
	f := &Flow{Graph: g, Takers: make([]Spot, many), Yes: make([]int, many), No: make([]int, many), Phis: make([][]int, many)}
	for i, n := range g.Nodes {
		s := shapeOf(n.Kind)
		for k, from := range n.In {
			if s.due(k) == 'w' {
				f.Takers[from] = Spot{i, k}
			}
		}
		switch n.Kind {
		case "yes":
			f.Yes[n.In[0]] = i
		case "no":
			f.No[n.In[0]] = i
		case "phi":
			f.Phis[n.In[0]] = append(f.Phis[n.In[0]], i)
		}
	}
	return f, nil
}

// Behind: the ways on which it goes on from a node.
func (f *Flow) Behind(i int) []int {
	switch f.Nodes[i].Kind {
	case "if":
		return []int{f.Yes[i], f.No[i]}
	case "return":
		return nil
	}
	return []int{i}
}

// asked: the values for which a node asks when it is come to at a number of its In. A region's phis are what asks there.
func (f *Flow) asked(s Spot) []int {
	n := f.Nodes[s.Node]
	if n.Kind != "region" {
		return n.In[1:]
	}
	var list []int
	for _, phi := range f.Phis[s.Node] {
		list = append(list, f.Nodes[phi].In[1+s.In])
	}
	return list
}
