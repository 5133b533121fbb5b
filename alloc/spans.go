package alloc

import "kelpforest/graph"

// span of a value: the places from the first to the last one at which nothing else may lie where it lies.
type span struct {
	from, to int
}

// spanner of values. Places are numbered through all blocks: each block's head, where its Params are made; then of each Ins one where it asks and one where it makes; then its end, where it asks for the last time. The first one is 1, so that 0 is ahead of all.
type spanner struct {
	*flow
	place       int
	heads, ends []int         // of blocks
	made        map[int]int   // of values: where they are made
	open        map[int][]int // of values: the blocks that ask for them ahead of making them
	spans       map[int]span
}

// spansOf the values that are needed.
func spansOf(f *flow) map[int]span {
	many := len(f.Blocks)
	s := &spanner{flow: f, heads: make([]int, many), ends: make([]int, many), made: map[int]int{}, open: map[int][]int{}, spans: map[int]span{}}
	for _, at := range f.come {
		s.block(at)
	}
	for v, blocks := range s.open {
		s.trace(v, blocks)
	}
	return s.spans
}

func (s *spanner) block(at int) {
	b := s.Blocks[at]
	s.place++
	s.heads[at] = s.place
	for _, p := range b.Params {
		s.make(p)
	}
	for _, x := range b.Ins {
		if !s.stays(x) {
			continue
		}
		s.place++
		for _, v := range x.Args {
			s.ask(at, v)
		}
		s.place++
		if x.Kind != "tick" && x.Kind != "print" {
			s.make(x.D)
		}
	}
	s.place++
	s.ends[at] = s.place
	if b.End != "jump" {
		s.ask(at, b.V)
	}
	for arm := range b.To {
		for _, p := range s.passes(at, arm) {
			s.ask(at, p.value)
		}
	}
}

// make a value: also where nobody asks for what it becomes there, it must not become so over another one.
func (s *spanner) make(v int) {
	if s.needed[v] {
		s.made[v] = s.place
		s.cover(v, s.place)
	}
}

// ask for a value in a block.
func (s *spanner) ask(at, v int) {
	s.cover(v, s.place)
	if s.made[v] < s.heads[at] {
		s.open[v] = append(s.open[v], at)
	}
}

func (s *spanner) cover(v, place int) {
	old, known := s.spans[v]
	if !known {
		old = span{place, place}
	}
	s.spans[v] = span{min(old.from, place), max(old.to, place)}
}

// trace a value back from the heads of blocks, on all ways, to where it is made. (Where it is not, a walk that asks for it is stuck.)
func (s *spanner) trace(v int, blocks []int) {
	made := s.made[v]
	graph.Visit(len(s.Blocks), blocks, func(at int) []int {
		s.cover(v, s.heads[at])
		var back []int
		for _, from := range s.from[at] {
			s.cover(v, s.ends[from])
			if made < s.heads[from] || made > s.ends[from] {
				back = append(back, from)
			}
		}
		return back
	})
}
