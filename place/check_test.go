package place_test

import (
	"math"
	"reflect"
	"slices"
	"strings"
	"testing"

	"kelpforest/api"
	"kelpforest/place"
)

// change of a code.
type change struct {
	what string
	make func(c *place.Code)
	want error
}

// add an Ins to a block.
func add(block int, x place.Ins) func(c *place.Code) {
	return func(c *place.Code) { c.Blocks[block].Ins = append(c.Blocks[block].Ins, x) }
}

// faults of one block of four(), which makes the value fresh and no other one that it had not.
func faults(block, fresh int) []change {
	at := func(do func(b *place.Block)) func(c *place.Code) {
		return func(c *place.Code) { do(&c.Blocks[block]) }
	}
	var list []change
	many := func(want error, ins ...place.Ins) {
		for _, x := range ins {
			list = append(list, change{"an Ins", add(block, x), want})
		}
	}
	many(api.ErrKind, ins("", 0, "", 0), ins("what", fresh, "", 0), ins("phi", fresh, "", 0), ins("start", 0, "", 0), ins("Tick", 0, "", 0), ins("jump", 0, "", 0),
		ins("one", fresh, "+", 0, 0), ins("one", fresh, "", 0, 0), ins("two", fresh, "!", 0, 0, 0), ins("two", fresh, "", 0, 0, 0), ins("two", fresh, "===", 0, 0, 0))
	many(api.ErrBound, ins("param", fresh, "", 2), ins("param", fresh, "", -1), ins("param", fresh, "", math.MinInt), ins("param", 20, "", 0), ins("const", -1, "", 0), ins("const", math.MaxInt, "", 0),
		ins("one", 20, "-", 0, 0), ins("one", fresh, "-", 0, 20), ins("two", fresh, "+", 0, 0, -1), ins("two", fresh, "+", 0, 20, 0), ins("call", 20, "h", 0), ins("call", fresh, "h", 0, 0, 1, 2, 20), ins("print", 0, "", 0, 20), ins("print", 0, "", 0, math.MinInt))
	many(api.ErrShape, ins("param", fresh, "", 0, 0), ins("param", fresh, "x", 0), ins("const", fresh, "", 0, 0), ins("const", fresh, "x", 0),
		ins("one", fresh, "-", 0), ins("one", fresh, "-", 0, 0, 0), ins("one", fresh, "-", 1, 0), ins("two", fresh, "-", 0), ins("two", fresh, "-", 0, 0), ins("two", fresh, "-", 0, 0, 0, 0), ins("two", fresh, "-", -1, 0, 0),
		ins("call", fresh, "h", 1), ins("call", fresh, "h", -1, 0, 0), ins("tick", 1, "", 0), ins("tick", 20, "", 0), ins("tick", 0, "", 1), ins("tick", 0, "x", 0), ins("tick", 0, "", 0, 0),
		ins("print", 0, "", 0), ins("print", 0, "", 0, 0, 0), ins("print", 1, "", 0, 0), ins("print", -1, "", 0, 0), ins("print", 0, "", 1, 0), ins("print", 0, "x", 0, 0))
	many(api.ErrExist, ins("const", 0, "", 0), ins("param", 2, "", 1), ins("one", 1, "-", 0, 0), ins("two", 2, "-", 0, 0, 0), ins("call", 0, "h", 0))
	return append(list, []change{
		{"no End", at(func(b *place.Block) { b.End = "" }), api.ErrKind},
		{"another End", at(func(b *place.Block) { b.End = "goto" }), api.ErrKind},
		{"a kind of Ins as End", at(func(b *place.Block) { b.End = "call" }), api.ErrKind},
		{"To behind the last block", at(func(b *place.Block) { b.To = []int{4} }), api.ErrBound},
		{"To below 0", at(func(b *place.Block) { b.To = []int{0, -1} }), api.ErrBound},
		{"With what is no value", at(func(b *place.Block) { b.With = [][]int{{20}} }), api.ErrBound},
		{"With what is no value, of more than there are", at(func(b *place.Block) { b.With = [][]int{{0}, {0}, {-1}} }), api.ErrBound},
		{"too many To", at(func(b *place.Block) { b.To, b.With = []int{0, 0, 0}, make([][]int, 3) }), api.ErrShape},
		{"too many With", at(func(b *place.Block) { b.With = append(b.With, nil) }), api.ErrShape},
		{"a value twice at once", at(func(b *place.Block) {
			b.Ins = append(b.Ins, ins("const", fresh, "", 0), ins("const", fresh, "", 1))
		}), api.ErrExist},
	}...)
}

// ins of a block.
func ins(kind string, d int, name string, num int, args ...int) place.Ins {
	return place.Ins{Kind: kind, D: d, Name: name, Num: num, Args: args}
}

// four: a code with all kinds of Ins and Ends; its block 1 loops, and has Params. The values 8 to 19 are made by nobody.
func four() place.Code {
	return place.Code{Name: "f", Params: 2, Values: 20, Blocks: []place.Block{
		{Ins: []place.Ins{ins("param", 0, "", 1), ins("const", 1, "", -5), ins("one", 2, "!", 0, 1)}, End: "jump", To: []int{1}, With: [][]int{{0, 1}}},
		{Params: []int{3, 4}, Ins: []place.Ins{ins("tick", 0, "", 0), ins("two", 5, "-", 0, 3, 4), ins("print", 0, "", 0, 5)}, End: "if", V: 3, To: []int{2, 3}, With: [][]int{nil, {5}}},
		{Ins: []place.Ins{ins("call", 6, "h", 0, 3, 4, 5)}, End: "jump", To: []int{1}, With: [][]int{{6, 3}}},
		{Params: []int{7}, End: "return", V: 7},
	}}
}

// changed: four, changed.
func changed(l ...func(c *place.Code)) place.Code {
	c := four()
	for _, do := range l {
		do(&c)
	}
	return c
}

// P91: what holds of the whole.
func TestCheck(t *testing.T) {
	jumps := func(many int) place.Code {
		return place.Code{Blocks: slices.Repeat([]place.Block{{End: "jump", To: []int{0}, With: make([][]int, 1)}}, many)}
	}
	set := func(params, values int) place.Code {
		return changed(func(c *place.Code) { c.Params, c.Values = params, values })
	}
	for _, c := range []struct {
		what string
		c    place.Code
		want error
	}{
		{"well", four(), nil},
		{"no name", changed(func(c *place.Code) { c.Name = "" }), nil},
		{"as many blocks as may be", jumps(api.MaxBlocks), nil},
		{"too many blocks", jumps(api.MaxBlocks + 1), api.ErrFull},
		{"too many blocks that are none", place.Code{Blocks: make([]place.Block, api.MaxBlocks+1)}, api.ErrFull},
		{"as many values as may be", set(2, api.MaxNodes), nil},
		{"too many values", set(2, api.MaxNodes+1), api.ErrFull},
		{"too many values, ahead of no blocks", place.Code{Values: math.MaxInt}, api.ErrFull},
		{"no blocks", place.Code{}, api.ErrShape},
		{"an empty list of blocks", place.Code{Params: 9, Blocks: []place.Block{}}, api.ErrShape},
		{"block 0 has Params", changed(func(c *place.Code) { c.Blocks[0].Params = []int{9} }), api.ErrShape},
		{"block 0 has Params, ahead of all else", changed(func(c *place.Code) { c.Blocks[0], c.Params = place.Block{Params: []int{99}}, -1 }), api.ErrShape},
		{"fewer values than none", set(2, -1), api.ErrShape},
		{"fewer values than none, ahead of Params", set(5, math.MinInt), api.ErrShape},
		{"too many Params", set(api.MaxParams+1, 20), api.ErrArgs},
		{"fewer Params than none", set(-1, 20), api.ErrArgs},
		{"Params ahead of a block", changed(func(c *place.Code) { c.Params, c.Blocks[0].End = 5, "" }), api.ErrArgs},
		{"as many Params as may be", set(api.MaxParams, 20), nil},
		{"block 0 with an empty list", changed(func(c *place.Code) { c.Blocks[0].Params = []int{} }), nil},
		{"lists that are empty", changed(func(c *place.Code) { c.Blocks[3].To, c.Blocks[3].With = []int{}, [][]int{} }), nil},
		{"no values, and none asked for", place.Code{Blocks: []place.Block{{Ins: []place.Ins{ins("tick", 0, "", 0)}, End: "jump", To: []int{0}, With: [][]int{{}}}}}, nil},
		{"a call of nobody, with many", changed(add(2, ins("call", 9, "", 0, 0, 0, 0, 0, 0, 0, 0, 0))), nil},
		{"what is not made, or too late", changed(add(0, ins("print", 0, "", 0, 19))), nil},
		{"a block that nobody comes to", changed(func(c *place.Code) { c.Blocks = append(c.Blocks, place.Block{End: "return", V: 19}) }), nil},
		{"an if to one block twice", changed(func(c *place.Code) { c.Blocks[1].To, c.Blocks[1].With = []int{3, 3}, [][]int{{0}, {1}} }), nil},
		{"back to block 0", changed(func(c *place.Code) { c.Blocks[2].To, c.Blocks[2].With = []int{0}, [][]int{nil} }), nil},
	} {
		if err := place.Check(c.c); err != c.want {
			t.Errorf("%s: %v, want %v", c.what, err, c.want)
		}
	}
}

// P91: each fault in each block.
func TestCheckFaults(t *testing.T) {
	for block := range 4 {
		for i, f := range faults(block, 10) {
			if err := place.Check(changed(f.make)); !reflect.DeepEqual(err, &api.Fault{At: block, Err: f.want}) {
				t.Errorf("block %d: %s, %d: %v, want %v", block, f.what, i, err, f.want)
			}
		}
	}
}

// P91: what only some blocks have.
func TestCheckEnds(t *testing.T) {
	for _, c := range []struct {
		at   int
		want error
		do   func(b *place.Block)
	}{
		{0, api.ErrShape, func(b *place.Block) { b.V = 1 }},
		{0, api.ErrShape, func(b *place.Block) { b.V = 20 }},
		{2, api.ErrShape, func(b *place.Block) { b.V = -1 }},
		{0, api.ErrShape, func(b *place.Block) { b.To = nil }},
		{0, api.ErrShape, func(b *place.Block) { b.To, b.With = nil, nil }},
		{0, api.ErrShape, func(b *place.Block) { b.With = nil }},
		{0, api.ErrShape, func(b *place.Block) { b.With[0] = []int{0} }},
		{0, api.ErrShape, func(b *place.Block) { b.With[0] = []int{0, 0, 0} }},
		{0, api.ErrShape, func(b *place.Block) { b.To[0] = 2 }},
		{0, api.ErrShape, func(b *place.Block) { b.End = "if" }},
		{0, api.ErrShape, func(b *place.Block) { b.End = "return" }},
		{0, api.ErrBound, func(b *place.Block) { b.To[0] = -1 }},
		{1, api.ErrBound, func(b *place.Block) { b.V = 20 }},
		{1, api.ErrBound, func(b *place.Block) { b.V = -1 }},
		{1, api.ErrBound, func(b *place.Block) { b.Params[1] = 20 }},
		{1, api.ErrBound, func(b *place.Block) { b.Params[0] = -1 }},
		{1, api.ErrBound, func(b *place.Block) { b.With[1][0] = 20 }},
		{1, api.ErrBound, func(b *place.Block) { b.To[1] = 4 }},
		{1, api.ErrShape, func(b *place.Block) { b.With[0] = []int{0} }},
		{1, api.ErrShape, func(b *place.Block) { b.With[1] = nil }},
		{1, api.ErrShape, func(b *place.Block) { b.To = b.To[:1] }},
		{1, api.ErrShape, func(b *place.Block) { b.With = b.With[:1] }},
		{1, api.ErrShape, func(b *place.Block) { b.End = "return" }},
		{1, api.ErrShape, func(b *place.Block) { b.End, b.V = "jump", 0 }},
		{1, api.ErrExist, func(b *place.Block) { b.Params[0] = 0 }},
		{1, api.ErrExist, func(b *place.Block) { b.Params[0] = 4 }},
		{1, api.ErrExist, func(b *place.Block) { b.Ins[1].D = 3 }},
		{3, api.ErrBound, func(b *place.Block) { b.V = 20 }},
		{3, api.ErrShape, func(b *place.Block) { b.To = []int{0} }},
		{3, api.ErrShape, func(b *place.Block) { b.To, b.With = []int{0}, [][]int{nil} }},
		{3, api.ErrShape, func(b *place.Block) { b.With = [][]int{nil} }},
		{3, api.ErrExist, func(b *place.Block) { b.Params[0] = 6 }},
	} {
		x := four()
		c.do(&x.Blocks[c.at])
		if err := place.Check(x); !reflect.DeepEqual(err, &api.Fault{At: c.at, Err: c.want}) {
			t.Errorf("block %d: %+v: %v, want %v", c.at, x.Blocks[c.at], err, c.want)
		}
	}
}

// P91: no block but another one tells that there are Params more or fewer.
func TestCheckParams(t *testing.T) {
	more := func(c *place.Code) { c.Blocks[3].Params = []int{7, 8} }
	fewer := func(c *place.Code) { c.Blocks[1].Params = []int{3} }
	for _, c := range []struct {
		do func(c *place.Code)
		at int
	}{{more, 1}, {fewer, 0}} {
		if err := place.Check(changed(c.do)); !reflect.DeepEqual(err, &api.Fault{At: c.at, Err: api.ErrShape}) {
			t.Error(err)
		}
	}
}

// P91, P3: of two faults of one block the error that is named first; of two blocks the first one.
func TestCheckOrder(t *testing.T) {
	named := strings.Fields("kind bound shape exist")
	rank := func(err error) int {
		return slices.Index(named, strings.TrimPrefix(err.Error(), "kelpforest: "))
	}
	// Those which set the same field would undo each other.
	ends := 10
	for block := range 4 {
		list := faults(block, 10)
		for i, a := range list {
			for k, b := range list {
				if i >= len(list)-ends && k >= len(list)-ends || i == k {
					continue
				}
				want := a.want
				if rank(b.want) < rank(want) {
					want = b.want
				}
				if err := place.Check(changed(a.make, b.make)); !reflect.DeepEqual(err, &api.Fault{At: block, Err: want}) {
					t.Fatalf("block %d: %s, %d and %s, %d: %v, want %v", block, a.what, i, b.what, k, err, want)
				}
			}
		}
	}
	for _, a := range faults(1, 10) {
		for _, b := range faults(2, 11) {
			if err := place.Check(changed(b.make, a.make)); !reflect.DeepEqual(err, &api.Fault{At: 1, Err: a.want}) {
				t.Fatalf("%s and %s: %v, want %v", a.what, b.what, err, a.want)
			}
		}
	}
}

// P91, P3: what lies behind a list's length is not read.
func TestCheckLength(t *testing.T) {
	c := four()
	c.Blocks = append(c.Blocks, place.Block{End: "what"})[:4]
	for i := range c.Blocks {
		b := &c.Blocks[i]
		b.Params = append(b.Params, -1)[:len(b.Params)]
		b.Ins = append(b.Ins, ins("what", 0, "", 0))[:len(b.Ins)]
		b.To = append(b.To, -1)[:len(b.To)]
		b.With = append(b.With, []int{-1})[:len(b.With)]
	}
	if err := place.Check(c); err != nil {
		t.Error(err)
	}
}
