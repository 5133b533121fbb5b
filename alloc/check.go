package alloc

import (
	"kelpforest/api"
	"kelpforest/graph"
)

// shape of the Ins of a kind, or of an End: the fields that it has.
type shape struct {
	kind               string
	d, a, b, num, name bool
	end                bool
	to                 int // how many
}

var shapes = [...]shape{
	{kind: "param", d: true, num: true},
	{kind: "const", d: true, num: true},
	{kind: "one", d: true, a: true, name: true},
	{kind: "two", d: true, a: true, b: true, name: true},
	{kind: "move", d: true, a: true},
	{kind: "load", d: true, num: true},
	{kind: "store", a: true, num: true},
	{kind: "arg", a: true, num: true},
	{kind: "call", d: true, num: true, name: true},
	{kind: "tick"},
	{kind: "print", a: true},
	{kind: "jump", end: true, to: 1},
	{kind: "if", end: true, a: true, to: 2},
	{kind: "return", end: true, a: true},
}

// shapeOf a kind of Ins, or of Ends; that of no kind has none.
func shapeOf(kind string, end bool) shape {
	for _, s := range shapes {
		if s.kind == kind && s.end == end {
			return s
		}
	}
	return shape{}
}

// Check a code.
func Check(c Code) error {
	switch {
	case len(c.Blocks) > 3*api.MaxBlocks:
		return api.ErrFull
	case len(c.Blocks) == 0:
		return api.ErrShape
	case c.Params < 0 || c.Params > api.MaxParams:
		return api.ErrArgs
	case c.Slots < 0 || c.Slots > api.MaxNodes:
		return api.ErrBound
	}
	for i, b := range c.Blocks {
		if err := c.checkBlock(b); err != nil {
			return &api.Fault{At: i, Err: err}
		}
	}
	return nil
}

// checkBlock: of all that is not well in a block, the error that is named first.
func (c Code) checkBlock(b Block) error {
	err := c.checkEnd(b)
	for _, x := range b.Ins {
		err = sooner(err, c.checkLow(x, shapeOf(x.Kind, false)))
	}
	return err
}

// sooner: of two errors the one that is named ahead of the other.
func sooner(a, b error) error {
	for _, err := range []error{api.ErrKind, api.ErrBound, api.ErrShape} {
		if a == err || b == err {
			return err
		}
	}
	return nil
}

// checkLow: an Ins by its shape.
func (c Code) checkLow(x Low, s shape) error {
	switch {
	case s.kind == "" || !graph.HasOp(x.Kind, x.Name):
		return api.ErrKind
	case s.d && !isRegister(x.D) || s.a && !isRegister(x.A) || s.b && !isRegister(x.B) || !c.bounds(x):
		return api.ErrBound
	case !s.d && x.D != 0 || !s.a && x.A != 0 || !s.b && x.B != 0 || !s.num && x.Num != 0 || !s.name && x.Name != "":
		return api.ErrShape
	}
	return nil
}

// checkEnd: its A is as that of an Ins.
func (c Code) checkEnd(b Block) error {
	s := shapeOf(b.End, true)
	err := c.checkLow(Low{Kind: b.End, A: b.A}, s)
	for _, to := range b.To {
		if to < 0 || to >= len(c.Blocks) {
			err = sooner(err, api.ErrBound)
		}
	}
	if len(b.To) != s.to {
		err = sooner(err, api.ErrShape)
	}
	return err
}

func isRegister(r int) bool {
	return r >= 0 && r < api.Regs
}

// bounds: is Num one that there is, if its kind has bounds for it?
func (c Code) bounds(x Low) bool {
	many := 0
	switch x.Kind {
	case "param":
		many = c.Params
	case "load", "store":
		many = c.Slots
	case "arg":
		many = api.MaxParams
	case "call":
		many = api.MaxParams + 1
	default:
		return true
	}
	return x.Num >= 0 && x.Num < many
}
