package alloc

import (
	"slices"

	"kelpforest/api"
	"kelpforest/graph"
	"kelpforest/place"
)

// flow of a code: its blocks that are come to, and what is needed in them.
type flow struct {
	place.Code
	come   []int   // those blocks, in order
	from   [][]int // of each block, those of them that lead to it
	needed []bool  // of each value: does what is done hang on it?
}

func newFlow(c place.Code) *flow {
	f := &flow{Code: c, from: make([][]int, len(c.Blocks)), needed: make([]bool, c.Values)}
	graph.Visit(len(c.Blocks), []int{0}, func(at int) []int {
		f.come = append(f.come, at)
		for _, to := range c.Blocks[at].To {
			f.from[to] = append(f.from[to], at)
		}
		return c.Blocks[at].To
	})
	slices.Sort(f.come)
	f.need()
	return f
}

// isStep: is it done also where nobody needs what it makes?
func isStep(x place.Ins) bool {
	return x.Kind == "tick" || x.Kind == "print" || x.Kind == "call"
}

// need what steps and Ends ask for, and all of which that is made.
func (f *flow) need() {
	var first []int
	parts := map[int][]int{} // of each value, those of which it is made
	for _, at := range f.come {
		b := f.Blocks[at]
		for _, x := range b.Ins {
			if isStep(x) {
				first = append(first, x.Args...)
			} else {
				parts[x.D] = x.Args
			}
		}
		if b.End != "jump" {
			first = append(first, b.V)
		}
		for arm, to := range b.To {
			for i, p := range f.Blocks[to].Params {
				parts[p] = append(parts[p], b.With[arm][i])
			}
		}
	}
	graph.Visit(f.Values, first, func(v int) []int {
		f.needed[v] = true
		return parts[v]
	})
}

// fits: has no call that is come to more arguments than a call of registers can have?
func (f *flow) fits() bool {
	for _, at := range f.come {
		for _, x := range f.Blocks[at].Ins {
			if x.Kind == "call" && len(x.Args) > api.MaxParams {
				return false
			}
		}
	}
	return true
}

// stays: is an Ins done? One that only makes what nobody needs is not.
func (f *flow) stays(x place.Ins) bool {
	return isStep(x) || f.needed[x.D]
}

// pass of a value to one of a block's Params.
type pass struct {
	value, param int
}

// passes behind an arm of a block, to Params that are needed.
func (f *flow) passes(at, arm int) []pass {
	b := f.Blocks[at]
	var list []pass
	for i, p := range f.Blocks[b.To[arm]].Params {
		if f.needed[p] {
			list = append(list, pass{b.With[arm][i], p})
		}
	}
	return list
}
