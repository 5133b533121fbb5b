package place

import (
	"slices"

	"kelpforest/api"
	"kelpforest/graph"
)

// shape of the Ins of a kind.
type shape struct {
	kind         string
	args         int // how many; below 0: any
	d, num, name bool
}

var shapes = [...]shape{
	{kind: "param", d: true, num: true},
	{kind: "const", d: true, num: true},
	{kind: "one", args: 1, d: true, name: true},
	{kind: "two", args: 2, d: true, name: true},
	{kind: "call", args: -1, d: true, name: true},
	{kind: "tick"},
	{kind: "print", args: 1},
}

// shapeOf a kind; that of no kind has none.
func shapeOf(kind string) shape {
	for _, s := range shapes {
		if s.kind == kind {
			return s
		}
	}
	return shape{}
}

// ending of a block.
type ending struct {
	kind string
	to   int // how many
	v    bool
}

var endings = [...]ending{{"jump", 1, false}, {"if", 2, true}, {"return", 0, true}}

// endingOf a kind; that of no kind has none.
func endingOf(kind string) ending {
	for _, e := range endings {
		if e.kind == kind {
			return e
		}
	}
	return ending{}
}

// Check a code.
func Check(c Code) error {
	switch {
	case len(c.Blocks) > api.MaxBlocks || c.Values > api.MaxNodes:
		return api.ErrFull
	case len(c.Blocks) == 0 || len(c.Blocks[0].Params) > 0 || c.Values < 0:
		return api.ErrShape
	case c.Params < 0 || c.Params > api.MaxParams:
		return api.ErrArgs
	}
	k := &checker{Code: c, made: map[int]int{}}
	for i, b := range c.Blocks {
		if err := k.block(b); err != nil {
			return &api.Fault{At: i, Err: err}
		}
	}
	return nil
}

// checker of a code, with how often each value is made, in the blocks till now.
type checker struct {
	Code
	made map[int]int
}

func (k *checker) block(b Block) error {
	switch {
	case !hasKinds(b):
		return api.ErrKind
	case !k.bounded(b):
		return api.ErrBound
	case !k.shaped(b):
		return api.ErrShape
	case !k.makesNew(b):
		return api.ErrExist
	}
	return nil
}

// all of a list are so.
func all[T any](list []T, so func(T) bool) bool {
	return !slices.ContainsFunc(list, func(x T) bool { return !so(x) })
}

func hasKinds(b Block) bool {
	return endingOf(b.End).kind != "" && all(b.Ins, func(x Ins) bool {
		return shapeOf(x.Kind).kind != "" && graph.HasOp(x.Kind, x.Name)
	})
}

func (k *checker) bounded(b Block) bool {
	return k.areValues(b.Params) &&
		all(b.Ins, k.boundedIns) &&
		(!endingOf(b.End).v || k.isValue(b.V)) &&
		all(b.To, func(to int) bool { return to >= 0 && to < len(k.Blocks) }) &&
		all(b.With, k.areValues)
}

func (k *checker) boundedIns(x Ins) bool {
	switch {
	case shapeOf(x.Kind).d && !k.isValue(x.D):
		return false
	case x.Kind == "param" && (x.Num < 0 || x.Num >= k.Code.Params):
		return false
	}
	return k.areValues(x.Args)
}

func (k *checker) isValue(v int) bool {
	return v >= 0 && v < k.Values
}

func (k *checker) areValues(list []int) bool {
	return all(list, k.isValue)
}

func (k *checker) shaped(b Block) bool {
	e := endingOf(b.End)
	return all(b.Ins, shapedIns) && len(b.To) == e.to && (e.v || b.V == 0) && k.fitWith(b)
}

func shapedIns(x Ins) bool {
	s := shapeOf(x.Kind)
	many := s.args < 0 || len(x.Args) == s.args
	return many && (s.d || x.D == 0) && (s.num || x.Num == 0) && (s.name || x.Name == "")
}

// fitWith: are there as many values as the blocks behind have Params?
func (k *checker) fitWith(b Block) bool {
	if len(b.With) != len(b.To) {
		return false
	}
	for i, to := range b.To {
		if len(b.With[i]) != len(k.Blocks[to].Params) {
			return false
		}
	}
	return true
}

// makesNew: does nothing ahead become what this block makes?
func (k *checker) makesNew(b Block) bool {
	isNew := func(v int) bool {
		k.made[v]++
		return k.made[v] == 1
	}
	return all(b.Params, isNew) && all(b.Ins, func(x Ins) bool {
		return !shapeOf(x.Kind).d || isNew(x.D)
	})
}
