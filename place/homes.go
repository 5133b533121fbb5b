package place

import "kelpforest/graph"

// homes of values: the stretches where they are made. A value that nobody asks for has none, but a call.
type homes struct {
	*layout
	home  map[int]int
	asks  map[int][]int // of a value, the stretches that ask for it
	users map[int][]int // of a value, the ones and twos that are reckoned of it
	soon  map[int]int   // of a value that floats, the first stretch where it can be made
}

func newHomes(l *layout) *homes {
	h := &homes{layout: l, home: map[int]int{}, asks: map[int][]int{}, users: map[int][]int{}, soon: map[int]int{}}
	h.askAll()
	for v := range h.Nodes {
		if len(h.asks[v])+len(h.users[v]) > 0 {
			h.settle(v)
		}
	}
	return h
}

// askAll: what nodes on ways ask for, and what is asked for by that.
func (h *homes) askAll() {
	var first []int
	for i, s := range h.list {
		for _, step := range s.steps {
			if h.Nodes[step].Kind == "call" {
				h.home[step] = i
			}
			first = append(first, h.ask(i, h.Nodes[step].In[1:]...)...)
		}
		if end := h.Nodes[s.end.Node]; end.Kind != "region" {
			first = append(first, h.ask(i, end.In[1:]...)...)
		}
	}
	graph.Visit(len(h.Nodes), first, h.askFor)
}

// ask for values in a stretch; it answers them.
func (h *homes) ask(at int, values ...int) []int {
	for _, v := range values {
		h.asks[v] = append(h.asks[v], at)
	}
	return values
}

// askFor a value: it answers for which others it asks.
func (h *homes) askFor(v int) []int {
	n := h.Nodes[v]
	switch n.Kind {
	case "phi":
		return h.askByWays(v, h.number[n.In[0]])
	case "one", "two":
		for _, in := range n.In {
			h.users[in] = append(h.users[in], v)
		}
		return n.In
	}
	return nil
}

// askByWays: a phi asks at the end of each way that is come to.
func (h *homes) askByWays(phi, at int) []int {
	h.home[phi] = at
	var list []int
	for _, from := range h.list[at].from {
		list = append(list, h.ask(from, h.got(phi, h.list[from]))...)
	}
	return list
}

// got: the value that a phi gets at the end of a stretch.
func (h *homes) got(phi int, s stretch) int {
	return h.Nodes[phi].In[1+s.end.In]
}

// settle a value where all come through who ask for it. It comes to an end, for no one or two hangs on itself.
func (h *homes) settle(v int) int {
	if at, settled := h.home[v]; settled {
		return at
	}
	late := -1
	for _, at := range h.asks[v] {
		late = h.meet(late, at)
	}
	for _, user := range h.users[v] {
		late = h.meet(late, h.settle(user))
	}
	h.home[v] = h.lift(v, late)
	return h.home[v]
}

// lift a one or two out of loops, as far as it can be made there. Params and consts stay, for to keep one is no cheaper than to make it anew.
func (h *homes) lift(v, late int) int {
	best := late
	if len(h.Nodes[v].In) == 0 {
		return best
	}
	for at := late; at > h.soonest(v); {
		at = h.above[at]
		if h.loops[at] < h.loops[best] {
			best = at
		}
	}
	return best
}

// soonest: the first stretch where a value can be made. Where it is asked for, one comes through the homes of all phis and calls of which it is reckoned; so they are one above the other, and the last one counts.
func (h *homes) soonest(v int) int {
	n := h.Nodes[v]
	if n.Kind == "phi" || n.Kind == "call" {
		return h.home[v]
	}
	at, known := h.soon[v]
	if !known {
		for _, in := range n.In {
			at = max(at, h.soonest(in))
		}
		h.soon[v] = at
	}
	return at
}
