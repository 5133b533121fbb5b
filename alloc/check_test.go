package alloc_test

import (
	"math"
	"reflect"
	"slices"
	"strings"
	"testing"

	"kelpforest/alloc"
	"kelpforest/api"
	"kelpforest/val"
)

// four: a code with all kinds of Ins and Ends, with 2 Params and 3 Slots.
func four() alloc.Code {
	return alloc.Code{Name: "f", Params: 2, Slots: 3, Blocks: []alloc.Block{
		{Ins: []alloc.Low{{Kind: "param", D: 1, Num: 1}, {Kind: "const", D: 2, Num: -5}, {Kind: "store", A: 2, Num: 2}}, End: "jump", To: []int{1}},
		{Ins: []alloc.Low{{Kind: "tick"}, {Kind: "load", D: 7, Num: 2}, {Kind: "two", D: 3, A: 1, B: 7, Name: "-"}, {Kind: "print", A: 3}}, End: "if", A: 1, To: []int{2, 3}},
		{Ins: []alloc.Low{{Kind: "arg", A: 3}, {Kind: "arg", A: 2, Num: 3}, {Kind: "call", D: 1, Num: 4, Name: "h"}}, End: "jump", To: []int{1}},
		{Ins: []alloc.Low{{Kind: "one", D: 4, A: 3, Name: "!"}, {Kind: "move", D: 5, A: 4}}, End: "return", A: 5},
	}}
}

// changed: four, changed.
func changed(l ...func(c *alloc.Code)) alloc.Code {
	c := four()
	for _, do := range l {
		do(&c)
	}
	return c
}

// P101: what holds of the whole.
func TestCheck(t *testing.T) {
	jumps := func(many int) alloc.Code {
		return alloc.Code{Blocks: slices.Repeat([]alloc.Block{{End: "jump", To: []int{0}}}, many)}
	}
	set := func(params, slots int) alloc.Code {
		return changed(func(c *alloc.Code) { c.Params, c.Slots = params, slots })
	}
	for _, c := range []struct {
		what string
		c    alloc.Code
		want error
	}{
		{"well", four(), nil},
		{"no name", changed(func(c *alloc.Code) { c.Name = "" }), nil},
		{"as many blocks as may be", jumps(3 * api.MaxBlocks), nil},
		{"too many blocks", jumps(3*api.MaxBlocks + 1), api.ErrFull},
		{"too many blocks, ahead of all else", alloc.Code{Params: -1, Slots: -1, Blocks: make([]alloc.Block, 3*api.MaxBlocks+1)}, api.ErrFull},
		{"no blocks", alloc.Code{}, api.ErrShape},
		{"an empty list of blocks, ahead of Params and Slots", alloc.Code{Params: 5, Slots: -1, Blocks: []alloc.Block{}}, api.ErrShape},
		{"too many Params", set(api.MaxParams+1, 3), api.ErrArgs},
		{"fewer Params than none, ahead of Slots", set(-1, -1), api.ErrArgs},
		{"as many Params as may be", set(api.MaxParams, 3), nil},
		{"too many Slots", set(2, api.MaxNodes+1), api.ErrBound},
		{"fewer Slots than none", set(2, -1), api.ErrBound},
		{"the most and the least", set(2, math.MaxInt), api.ErrBound},
		{"Slots ahead of a block", changed(func(c *alloc.Code) { c.Slots, c.Blocks[0].End = math.MinInt, "" }), api.ErrBound},
		{"as many Slots as may be", set(2, api.MaxNodes), nil},
		{"no Slots, and none asked for", alloc.Code{Blocks: []alloc.Block{{End: "return"}}}, nil},
		{"lists that are empty", changed(func(c *alloc.Code) { c.Blocks[3].To, c.Blocks[3].Ins = []int{}, []alloc.Low{} }), nil},
		{"a block that nobody comes to", changed(func(c *alloc.Code) { c.Blocks = append(c.Blocks, alloc.Block{End: "return", A: 7}) }), nil},
		{"an if to one block twice, and to itself", changed(func(c *alloc.Code) { c.Blocks[1].To = []int{1, 1} }), nil},
		{"back to block 0", changed(func(c *alloc.Code) { c.Blocks[2].To = []int{0} }), nil},
	} {
		if err := alloc.Check(c.c); err != c.want {
			t.Errorf("%s: %v, want %v", c.what, err, c.want)
		}
	}
}

// rule of a kind: the fields that it has, and below which number its Num must be (0: any).
type rule struct {
	fields string
	below  int
}

// rules of P100 and P101, for a code with 2 Params and 3 Slots.
func rules() map[string]rule {
	return map[string]rule{
		"param": {"D Num", 2}, "const": {"D Num", 0}, "one": {"D A Name", 0}, "two": {"D A B Name", 0}, "move": {"D A", 0},
		"load": {"D Num", 3}, "store": {"A Num", 3}, "arg": {"A Num", api.MaxParams}, "call": {"D Num Name", api.MaxParams + 1}, "tick": {}, "print": {"A", 0},
	}
}

func (r rule) has(field string) bool { return slices.Contains(strings.Fields(r.fields), field) }

// wrong: what is wrong with a number in a field.
func (r rule) wrong(field string, n int) error {
	below := api.Regs
	if field == "Num" {
		below = r.below
	}
	switch {
	case !r.has(field) && n != 0:
		return api.ErrShape
	case r.has(field) && below > 0 && (n < 0 || n >= below):
		return api.ErrBound
	}
	return nil
}

// wrongName: what is wrong with a name.
func (r rule) wrongName(kind, name string) error {
	ops := map[string][]string{"one": {"-", "!"}, "two": val.Ops()}[kind]
	switch {
	case ops != nil && !slices.Contains(ops, name):
		return api.ErrKind
	case !r.has("Name") && name != "":
		return api.ErrShape
	}
	return nil
}

// field of an Ins, to be set.
func field(x *alloc.Low, name string) *int {
	return map[string]*int{"D": &x.D, "A": &x.A, "B": &x.B, "Num": &x.Num}[name]
}

// trial of an Ins, and what is wrong with it.
type trial struct {
	alloc.Low
	want error
}

// trials: Ins of all kinds with all kinds of names; and of numbers, in one field or in two.
func trials() (names, all []trial) {
	first := map[error]int{api.ErrKind: 0, api.ErrBound: 1, api.ErrShape: 2, nil: 3}
	numbers := []int{math.MinInt, -1, 0, 1, 2, 3, 4, 5, 7, 8, 1000, math.MaxInt}
	for kind, r := range rules() {
		for _, name := range []string{"", "-", "!", "+", "<<", "**", "h"} {
			bad := r.wrongName(kind, name)
			names = append(names, trial{alloc.Low{Kind: kind, Name: name}, bad})
			for _, f := range []string{"D", "A", "B", "Num"} {
				for _, n := range numbers {
					x := alloc.Low{Kind: kind, Name: name}
					*field(&x, f) = n
					want := bad
					if other := r.wrong(f, n); first[other] < first[want] {
						want = other
					}
					all = append(all, trial{x, want})
					for _, g := range []string{"D", "A", "B", "Num"} {
						if g == f || bad != nil {
							continue
						}
						y, both := x, want
						*field(&y, g) = -1
						if other := r.wrong(g, -1); first[other] < first[both] {
							both = other
						}
						all = append(all, trial{y, both})
					}
				}
			}
		}
	}
	for _, kind := range []string{"", "what", "phi", "jump", "if", "return", "Tick", "tick "} {
		names = append(names, trial{alloc.Low{Kind: kind}, api.ErrKind}, trial{alloc.Low{Kind: kind, D: -1, B: 9, Name: "x"}, api.ErrKind})
	}
	return names, append(all, names...)
}

// faultAt a block; nil is none.
func faultAt(at int, err error) error {
	if err == nil {
		return nil
	}
	return &api.Fault{At: at, Err: err}
}

// P101, P100: each kind with each field, in each block.
func TestCheckFields(t *testing.T) {
	_, list := trials()
	for at := range 4 {
		for _, x := range list {
			c := changed(func(c *alloc.Code) { c.Blocks[at].Ins = append(c.Blocks[at].Ins, x.Low) })
			if err := alloc.Check(c); !reflect.DeepEqual(err, faultAt(at, x.want)) {
				t.Fatalf("block %d: %+v: %v, want %v", at, x.Low, err, x.want)
			}
		}
	}
}

// end of a block, and what is wrong with it, in a code of 4 blocks.
type end struct {
	End  string
	A    int
	To   []int
	want error
}

func ends() []end {
	return []end{
		{"", 0, nil, api.ErrKind},
		{"goto", 9, []int{9}, api.ErrKind},
		{"call", 0, nil, api.ErrKind},
		{"one", 0, nil, api.ErrKind},
		{"Jump", 0, []int{0}, api.ErrKind},
		{"jump", 0, []int{0}, nil},
		{"jump", 0, []int{3}, nil},
		{"jump", 0, []int{4}, api.ErrBound},
		{"jump", 1, []int{-1}, api.ErrBound},
		{"jump", 0, nil, api.ErrShape},
		{"jump", 0, []int{0, 1}, api.ErrShape},
		{"jump", 0, []int{0, 1, 4}, api.ErrBound},
		{"jump", 1, []int{0}, api.ErrShape},
		{"jump", 8, []int{0}, api.ErrShape},
		{"jump", -1, []int{0}, api.ErrShape},
		{"if", 0, []int{0, 0}, nil},
		{"if", 7, []int{3, 1}, nil},
		{"if", 8, []int{3, 1}, api.ErrBound},
		{"if", -1, nil, api.ErrBound},
		{"if", 7, []int{1, 4}, api.ErrBound},
		{"if", 7, []int{math.MinInt, 1}, api.ErrBound},
		{"if", 7, []int{math.MaxInt}, api.ErrBound},
		{"if", 7, []int{1}, api.ErrShape},
		{"if", 7, []int{}, api.ErrShape},
		{"if", 7, []int{1, 2, 3}, api.ErrShape},
		{"return", 0, nil, nil},
		{"return", 7, []int{}, nil},
		{"return", 8, nil, api.ErrBound},
		{"return", math.MinInt, []int{0}, api.ErrBound},
		{"return", 0, []int{4}, api.ErrBound},
		{"return", 0, []int{0}, api.ErrShape},
	}
}

// P101: Ends.
func TestCheckEnds(t *testing.T) {
	for at := range 4 {
		for _, e := range ends() {
			c := four()
			b := &c.Blocks[at]
			b.End, b.A, b.To = e.End, e.A, e.To
			if err := alloc.Check(c); !reflect.DeepEqual(err, faultAt(at, e.want)) {
				t.Errorf("block %d: %+v: %v, want %v", at, *b, err, e.want)
			}
		}
	}
}

// P101, P3: of all that is wrong in a block, wherever it stands, the error that is named first; of two blocks the first one.
func TestCheckOrder(t *testing.T) {
	named := []error{api.ErrKind, api.ErrBound, api.ErrShape}
	list, _ := trials()
	few := []trial{{alloc.Low{Kind: "tick"}, nil}, {alloc.Low{Kind: "tick", Num: 1}, api.ErrShape}, {alloc.Low{Kind: "move", A: 8}, api.ErrBound}, {alloc.Low{Kind: "load", Num: 3}, api.ErrBound}, {alloc.Low{}, api.ErrKind}}
	list = append(list, few...)
	for _, e := range ends() {
		for _, x := range list {
			for _, y := range few {
				c := four()
				c.Blocks[1] = alloc.Block{Ins: []alloc.Low{x.Low, y.Low}, End: e.End, A: e.A, To: e.To}
				c.Blocks[2].Ins[0].D = 1
				want := faultAt(2, api.ErrShape)
				for _, err := range slices.Backward(named) {
					if e.want == err || x.want == err || y.want == err {
						want = faultAt(1, err)
					}
				}
				if err := alloc.Check(c); !reflect.DeepEqual(err, want) {
					t.Fatalf("%+v: %v, want %v", c.Blocks[1], err, want)
				}
			}
		}
	}
}

// P101, P3, P4: what lies behind a list's length is not read; nothing is changed.
func TestCheckLength(t *testing.T) {
	c := four()
	c.Blocks = append(c.Blocks, alloc.Block{End: "what"})[:4]
	for i := range c.Blocks {
		b := &c.Blocks[i]
		b.Ins = append(b.Ins, alloc.Low{Kind: "what"})[:len(b.Ins)]
		b.To = append(b.To, -1)[:len(b.To)]
	}
	if err := alloc.Check(c); err != nil || !reflect.DeepEqual(c.Blocks[:3], four().Blocks[:3]) {
		t.Error(err)
	}
}
