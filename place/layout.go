package place

import (
	"slices"

	"kelpforest/graph"
)

// stretch of a graph: nodes on ways, one behind the other, that become a block.
type stretch struct {
	first int        // a start, region, yes or no
	steps []int      // ticks, prints and calls
	end   graph.Spot // of a region, an if or a return: where its last way is taken
	to    []int      // the stretches on which it goes on
	from  []int      // those that go on on it
}

// layout of a graph: its stretches that are come to. Each stands behind all through which one must come to it.
type layout struct {
	*graph.Flow
	list   []stretch
	number map[int]int // of stretches, by their first nodes
	above  []int       // of each stretch, the last one through which all come to it
	loops  []int       // of each stretch, in how many it is
}

func newLayout(f *graph.Flow) *layout {
	l := &layout{Flow: f, number: map[int]int{}}
	l.order()
	l.link()
	l.findAbove()
	l.countLoops()
	return l
}

// order the stretches: each ahead of those on which it goes on, but where that goes back.
func (l *layout) order() {
	seen := map[int]int{}
	var come func(first int)
	come = func(first int) {
		if seen[first] > 0 {
			return
		}
		seen[first]++
		s := l.stretch(first)
		// The list is turned around: so yes comes to stand ahead of no.
		for _, next := range slices.Backward(l.Behind(s.end.Node)) {
			come(next)
		}
		l.list = append(l.list, s)
	}
	come(0)
	slices.Reverse(l.list)
}

func (l *layout) stretch(first int) stretch {
	s := stretch{first: first, end: l.Takers[first]}
	for l.isStep(s.end.Node) {
		s.steps = append(s.steps, s.end.Node)
		s.end = l.Takers[s.end.Node]
	}
	return s
}

func (l *layout) isStep(node int) bool {
	switch l.Nodes[node].Kind {
	case "tick", "print", "call":
		return true
	}
	return false
}

func (l *layout) link() {
	for i, s := range l.list {
		l.number[s.first] = i
	}
	for i := range l.list {
		s := &l.list[i]
		for _, next := range l.Behind(s.end.Node) {
			to := l.number[next]
			s.to = append(s.to, to)
			l.list[to].from = append(l.list[to].from, i)
		}
	}
}

// findAbove: from guesses that may lie too low, till none of them changes.
func (l *layout) findAbove() {
	l.above = slices.Repeat([]int{-1}, len(l.list))
	l.above[0] = 0
	for changed := true; changed; {
		changed = false
		for i := 1; i < len(l.list); i++ {
			above := -1
			for _, from := range l.list[i].from {
				if l.above[from] >= 0 {
					above = l.meet(above, from)
				}
			}
			changed = changed || above != l.above[i]
			l.above[i] = above
		}
	}
}

// meet: the last stretch through which all come to both (below 0: to the other one).
func (l *layout) meet(a, b int) int {
	if a < 0 {
		return b
	}
	for a != b {
		if a > b {
			a = l.above[a]
		} else {
			b = l.above[b]
		}
	}
	return a
}

// countLoops: a loop has a head through which all come into it. (Others are not counted: nothing is lifted out of them.)
func (l *layout) countLoops() {
	l.loops = make([]int, len(l.list))
	for head, s := range l.list {
		var back []int
		for _, from := range s.from {
			if l.meet(head, from) == head {
				back = append(back, from)
			}
		}
		graph.Visit(len(l.list), back, func(at int) []int {
			l.loops[at]++
			if at == head {
				return nil
			}
			return l.list[at].from
		})
	}
}
