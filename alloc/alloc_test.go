package alloc_test

import (
	"fmt"
	"math"
	"reflect"
	"slices"
	"sync"
	"testing"

	"kelpforest/alloc"
	"kelpforest/api"
	"kelpforest/fold"
	"kelpforest/graph"
	"kelpforest/lex"
	"kelpforest/place"
	"kelpforest/tree"
)

// ins of a block of values.
func ins(kind string, d int, name string, num int, args ...int) place.Ins {
	return place.Ins{Kind: kind, D: d, Name: name, Num: num, Args: args}
}

// values: a code with so many of them, and so many parameters.
func values(params, many int, l ...place.Block) place.Code {
	return place.Code{Name: "name", Params: params, Values: many, Blocks: l}
}

// answer a value.
func answer(v int, l ...place.Ins) place.Block {
	return place.Block{Ins: l, End: "return", V: v}
}

// on to a block.
func on(to int, with []int, l ...place.Ins) place.Block {
	return place.Block{Ins: l, End: "jump", To: []int{to}, With: [][]int{with}}
}

// arms of a value, to two blocks.
func arms(v, yes, no int, withYes, withNo []int, l ...place.Ins) place.Block {
	return place.Block{Ins: l, End: "if", V: v, To: []int{yes, no}, With: [][]int{withYes, withNo}}
}

// gets: a block with Params.
func gets(params []int, b place.Block) place.Block {
	b.Params = params
	return b
}

// valueText, for what a test tells.
func valueText(c place.Code) string {
	s := fmt.Sprintf("%s of %d, %d values\n", c.Name, c.Params, c.Values)
	for i, b := range c.Blocks {
		s += fmt.Sprintln("block", i, b.Params)
		for _, x := range b.Ins {
			s += fmt.Sprintln("\t", x.D, x.Kind, x.Name, x.Num, x.Args)
		}
		s += fmt.Sprintln("\t", b.End, b.V, b.To, b.With)
	}
	return s
}

// codeText, for what a test tells.
func codeText(c alloc.Code) string {
	s := fmt.Sprintf("%s of %d, %d slots\n", c.Name, c.Params, c.Slots)
	for i, b := range c.Blocks {
		s += fmt.Sprintln("block", i)
		for _, x := range b.Ins {
			s += fmt.Sprintf("\t%+v\n", x)
		}
		s += fmt.Sprintln("\t", b.End, b.A, b.To)
	}
	return s
}

// highest register of a code.
func highest(c alloc.Code) int {
	r := 0
	for _, b := range c.Blocks {
		r = max(r, b.A)
		for _, x := range b.Ins {
			r = max(r, x.D, x.A, x.B)
		}
	}
	return r
}

// allocIn: what is made of a code that is well, in so many registers; it must be as P103 says, but for what it does.
func allocIn(t *testing.T, c place.Code, regs int) alloc.Code {
	t.Helper()
	a, err := alloc.AllocIn(c, regs)
	if err != nil || alloc.Check(a) != nil || a.Name != c.Name || a.Params != c.Params || a.Slots > max(0, c.Values-(regs-2)) || highest(a) >= regs {
		t.Fatalf("in %d: %v, %v\n%s%s", regs, err, alloc.Check(a), valueText(c), codeText(a))
	}
	return a
}

// allocated: what Alloc makes of it, and beside it what is made in fewer registers.
func allocated(t *testing.T, c place.Code) []alloc.Code {
	t.Helper()
	var list []alloc.Code
	for regs := 2; regs <= api.Regs; regs++ {
		list = append(list, allocIn(t, c, regs))
	}
	a, err := alloc.Alloc(c)
	if err != nil || codeText(a) != codeText(list[len(list)-1]) {
		t.Fatal("Alloc makes another one of it", err)
	}
	return list
}

// same: all of them do as a code does, but where it is stuck.
func same(t *testing.T, c place.Code, list []alloc.Code, args, answers []int, ticks int) graph.Done {
	t.Helper()
	want := place.Walk(c, args, answers, ticks)
	for _, a := range list {
		if d := alloc.Walk(a, args, answers, ticks); want.How != "stuck" && !alike(d, want) {
			t.Fatalf("of %v with %v and %d ticks: %s, want %s\n%s%s", args, answers, ticks, told(d), told(want), valueText(c), codeText(a))
		}
	}
	return want
}

// build the code of a function, from its text, as it is or better.
func build(t *testing.T, s string, better bool) place.Code {
	t.Helper()
	l, err := lex.Read(s)
	if err != nil {
		t.Fatalf("Read(%q): %v", s, err)
	}
	p, err := tree.Parse(l)
	if err != nil {
		t.Fatalf("Parse(%q): %v", s, err)
	}
	g, err := graph.Build(p[0])
	if err == nil && better {
		g, err = fold.Fold(g)
	}
	if err != nil {
		t.Fatalf("Build(%q): %v", s, err)
	}
	c, err := place.Place(g)
	if err != nil {
		t.Fatalf("Place(%q): %v", s, err)
	}
	return c
}

// P103, P104: functions of each kind.
func TestAlloc(t *testing.T) {
	for _, s := range []string{
		"",
		"return a - b;",
		"return -a + !b * (a << 2);",
		"print 1; print h(2); return 3;",
		"if a { b = 1; } else { b = 2; } return b;",
		"if a { return 1; } else { return 2; }",
		"while 1 { return a; }",
		"var x = 1; var y = 2; while a { var z = x; x = y; y = z; a = a - 1; } return x * 10 + y;",
		"var x = 0; var y = 0; while a { y = x; x = h(a); a = a - 1; } return y * 10 + x;",
		"var x = 0; var y = 1; var z = 2; while a { var o = x; x = y; y = z; z = o; a = a - 1; print x * 100 + y * 10 + z; }",
		"while a { var i = b; while i { print a * 10 + i; i = i - 1; } a = a - 1; }",
		"while a { while b { b = b - 1; if b == 2 { return h(b); } } a = a - 1; b = a; } return 9;",
		"var x = h(a); var y = x; while y { y = k(y, x * x); } return x * y;",
		"return h(k(a) - 1, k(b), a, b) + h(1);",
		"return a + (b + (a * (b - (a + (b * (a - (b + (a + 1))))))));",
		"var p = a + 1; var q = a + 2; var r = a + 3; var s = a + 4; var u = a + 5; var v = a + 6; var w = a + 7; var x = a + 8; while b { var y = p; p = q; q = r; r = s; s = u; u = v; v = w; w = x; x = y; b = b - 1; print p * 10 + x; } return h(p, q, r, s) + h(u, v, w, x);",
	} {
		for _, better := range []bool{false, true} {
			c := build(t, "fn name(a, b) { "+s+" }", better)
			list := allocated(t, c)
			for _, args := range [][]int{{0, 0}, {1, 5}, {4, 3}, {-2, 2}, {3, 0}} {
				for ticks := range 14 {
					same(t, c, list, args, []int{4, 0, 9, 1, 0}[:ticks%6], ticks)
				}
			}
		}
	}
}

// turn: a loop through so many values, each of which becomes another one, all at once; each turn prints them. The loop goes on by an arm of its own if, or by a jump.
func turn(become []int, byArm bool) place.Code {
	n := len(become)
	first, params, round := []int{0}, []int{n + 2}, []int{2*n + 3}
	enter := []place.Ins{ins("param", 0, "", 0), ins("const", 1, "", 1)}
	loop := []place.Ins{ins("tick", 0, "", 0)}
	for k, from := range become {
		enter = append(enter, ins("const", 2+k, "", 10+k))
		first, params, round = append(first, 2+k), append(params, n+3+k), append(round, n+3+from)
		loop = append(loop, ins("print", 0, "", 0, n+3+k))
	}
	less := ins("two", 2*n+3, "-", 0, n+2, 1)
	if byArm {
		return values(1, 2*n+4, on(1, first, enter...), gets(params, arms(n+2, 1, 2, round, nil, append(loop, less)...)), answer(n+3))
	}
	return values(1, 2*n+4, on(1, first, enter...), gets(params, arms(n+2, 2, 3, nil, nil, loop...)), on(1, round, less), answer(n+3))
}

// P103: Params become what With has at once, whatever goes where: rings, chains, and one to many.
func TestAllocMoves(t *testing.T) {
	many := func(n int, from func(k int) int) []int {
		l := make([]int, n)
		for k := range l {
			l[k] = from(k)
		}
		return l
	}
	lists := [][]int{{0}, {1, 0}, {0, 0}, {1, 2, 0}, {2, 0, 1}, {1, 0, 0}, {1, 0, 3, 2}, {1, 0, 2, 0, 1}, {1, 0, 3, 4, 2, 0, 2, 4}}
	for _, n := range []int{5, 6, 7, 8, 9, 12, 20} {
		lists = append(lists,
			many(n, func(k int) int { return (k + 1) % n }),
			many(n, func(k int) int { return (k + n - 1) % n }),
			many(n, func(k int) int { return max(0, k-1) }),
			many(n, func(k int) int { return min(n-1, k+1) }),
			many(n, func(k int) int { return n - 1 - k }),
			many(n, func(k int) int { return k / 2 }),
			many(n, func(k int) int { return k * k % n }),
			many(n, func(k int) int { return k &^ 3 % n }))
	}
	for _, l := range lists {
		for _, byArm := range []bool{false, true} {
			c := turn(l, byArm)
			made := allocated(t, c)
			for _, k := range []int{0, 1, 2, 5} {
				if d := same(t, c, made, []int{k}, nil, 8); d.How != "done" {
					t.Fatal(l, told(d))
				}
			}
			same(t, c, made, []int{-1}, nil, 8)
		}
	}
}

// P103: codes that no function has.
func TestAllocCodes(t *testing.T) {
	for _, c := range []struct {
		what string
		c    place.Code
	}{
		{"least", values(0, 0, on(0, nil))},
		{"least with ticks", values(0, 0, on(0, nil, ins("tick", 0, "", 0)))},
		{"both arms to one block, each with its own", values(2, 6, arms(0, 1, 1, []int{0, 1, 2}, []int{1, 2, 0}, ins("param", 0, "", 0), ins("param", 1, "", 1), ins("const", 2, "", 7)), gets([]int{3, 4, 5}, answer(3, ins("print", 0, "", 0, 4), ins("print", 0, "", 0, 5))))},
		{"an arm with values, and a jump to the same block", values(2, 5, arms(0, 2, 1, []int{1, 0}, nil, ins("param", 0, "", 0), ins("param", 1, "", 1)), on(2, []int{0, 2}, ins("const", 2, "", 9)), gets([]int{3, 4}, answer(3, ins("print", 0, "", 0, 4))))},
		{"an arm back to its own block, the other to the first", values(2, 6, on(1, []int{0, 1}, ins("tick", 0, "", 0), ins("param", 0, "", 0), ins("param", 1, "", 1)), gets([]int{2, 3}, arms(2, 1, 0, []int{4, 2}, nil, ins("tick", 0, "", 0), ins("call", 4, "h", 0, 3, 2), ins("print", 0, "", 0, 3))))},
		{"the value of an if that is passed by its arms, too", values(1, 4, on(1, []int{0}, ins("param", 0, "", 0), ins("const", 1, "", 1)), gets([]int{2}, arms(2, 1, 2, []int{3}, nil, ins("two", 3, "-", 0, 2, 1), ins("tick", 0, "", 0), ins("print", 0, "", 0, 2))), answer(3))},
		{"made on one way only", values(1, 12, arms(0, 1, 2, nil, nil, ins("param", 0, "", 0), ins("const", 1, "", 1)), on(3, nil, ins("const", 2, "", 33)), on(3, nil, ins("const", 3, "", 44)), arms(0, 4, 5, nil, nil, ins("two", 4, "+", 0, 0, 1), ins("two", 5, "+", 0, 4, 1), ins("print", 0, "", 0, 4), ins("print", 0, "", 0, 5)), answer(2), answer(3, ins("print", 0, "", 0, 3)))},
		{"what was made in the turn ahead", values(1, 6, on(1, []int{0}, ins("param", 0, "", 0), ins("const", 1, "", 1)), gets([]int{2}, arms(3, 2, 3, nil, nil, ins("two", 3, "==", 0, 2, 0))), on(1, []int{4}, ins("two", 4, "-", 0, 2, 1)), arms(2, 4, 5, nil, nil, ins("print", 0, "", 0, 4)), on(1, []int{5}, ins("two", 5, "-", 0, 4, 1), ins("tick", 0, "", 0)), answer(4))},
		{"made over nobody, though nobody asks for it behind that", values(1, 4, arms(0, 1, 2, nil, nil, ins("param", 0, "", 0)), answer(1, ins("print", 0, "", 0, 1)), answer(2, ins("const", 2, "", 3), ins("const", 1, "", 9), ins("print", 0, "", 0, 2)))},
		{"one that is asked for ahead of being made, in one block", values(1, 4, on(1, nil, ins("param", 0, "", 0)), arms(0, 2, 1, nil, nil, ins("tick", 0, "", 0), ins("print", 0, "", 0, 0), ins("one", 1, "!", 0, 0), ins("print", 0, "", 0, 1)), arms(3, 1, 1, nil, nil, ins("print", 0, "", 0, 1), ins("one", 3, "-", 0, 1)))},
		{"a call whose answer nobody needs", values(1, 8, answer(0, ins("param", 0, "", 0), ins("call", 1, "h", 0, 0, 0), ins("call", 2, "k", 0), ins("two", 3, "+", 0, 1, 2), ins("print", 0, "", 0, 0)))},
		{"Params that nobody needs", values(1, 8, on(1, []int{1, 0, 1}, ins("param", 0, "", 0), ins("const", 1, "", 4)), gets([]int{2, 3, 4}, arms(3, 1, 2, []int{4, 5, 2}, nil, ins("tick", 0, "", 0), ins("one", 5, "!", 0, 3))), answer(3))},
		{"blocks that nobody comes to", values(1, 8, on(3, []int{0}, ins("param", 0, "", 0)), gets([]int{1, 2}, on(1, []int{2, 1}, ins("print", 0, "", 0, 5))), on(3, []int{6}, ins("call", 6, "h", 0, 0, 0, 0, 0, 0, 0)), gets([]int{3}, answer(3)), arms(5, 1, 3, []int{0, 0}, []int{7}))},
		{"values that nobody makes", values(1, 20, arms(0, 1, 2, nil, nil, ins("param", 0, "", 0)), answer(19, ins("two", 1, "+", 0, 18, 17)), answer(0))},
		{"one with itself", values(1, 12, answer(11, ins("param", 0, "", 0), ins("const", 1, "", 1), ins("const", 2, "", 2), ins("const", 3, "", 3), ins("const", 4, "", 4), ins("const", 5, "", 5), ins("const", 6, "", 6), ins("const", 7, "", 7), ins("two", 8, "*", 0, 7, 7), ins("call", 9, "h", 0, 8, 8, 7, 6), ins("call", 10, "h", 0, 5, 4, 3, 2), ins("two", 11, "-", 0, 10, 9), ins("print", 0, "", 0, 1), ins("print", 0, "", 0, 0)))},
	} {
		if err := place.Check(c.c); err != nil {
			t.Fatalf("%s: %v", c.what, err)
		}
		list := allocated(t, c.c)
		for _, args := range [][]int{{0, 0}, {1, 0}, {0, 5}, {3, 1}, {-7, 7}, {math.MinInt, 64}} {
			for ticks := range 8 {
				same(t, c.c, list, args[:c.c.Params], []int{3, -4, 0, 0, 5}, ticks)
			}
		}
	}
}

// P103: as many slots as there may be are enough, to the last one.
func TestAllocSlots(t *testing.T) {
	for n := range 40 {
		// all of them at once, then each by itself
		c := values(0, n+1, answer(n))
		b := &c.Blocks[0]
		for v := range n {
			b.Ins = append(b.Ins, ins("const", v, "", v*v))
		}
		for v := range n {
			b.Ins = append(b.Ins, ins("print", 0, "", 0, v))
		}
		b.Ins = append(b.Ins, ins("call", n, "h", 0))
		same(t, c, allocated(t, c), nil, []int{4}, 0)
		if a := allocIn(t, c, api.Regs); n < 7 && a.Slots != 0 {
			t.Error(n, a.Slots)
		}
		// one behind the other: none needs a slot
		c = values(1, n+1, answer(n, ins("param", 0, "", 0)))
		for v := range n {
			c.Blocks[0].Ins = append(c.Blocks[0].Ins, ins("two", v+1, "+", 0, v, v))
		}
		same(t, c, allocated(t, c), []int{3}, nil, 0)
		if a := allocIn(t, c, api.Regs); a.Slots != 0 {
			t.Error(n, a.Slots)
		}
	}
	// What ends where another one is made leaves it its register.
	six := values(0, 11, answer(10))
	for v := range 6 {
		six.Blocks[0].Ins = append(six.Blocks[0].Ins, ins("const", v, "", v+1))
	}
	for v, last := range []int{0, 6, 7, 8, 9} {
		six.Blocks[0].Ins = append(six.Blocks[0].Ins, ins("two", v+6, "*", 0, last, v+1))
	}
	same(t, six, allocated(t, six), nil, nil, 0)
	if a := allocIn(t, six, api.Regs); a.Slots != 0 {
		t.Error(codeText(a))
	}
}

// What nobody needs takes no room.
func TestAllocNeeds(t *testing.T) {
	c := values(1, 101, answer(0, ins("param", 0, "", 0)))
	for v := range 100 {
		c.Blocks[0].Ins = append(c.Blocks[0].Ins, ins("two", v+1, "+", 0, 0, v))
	}
	list := allocated(t, c)
	same(t, c, list, []int{7}, nil, 0)
	if a := list[len(list)-1]; a.Slots != 0 || len(a.Blocks[0].Ins) != 1 {
		t.Error(codeText(a))
	}
}

// What lies where it goes to is not moved, and asks for no block of its own.
func TestAllocStill(t *testing.T) {
	c := values(1, 2, on(1, []int{0}, ins("param", 0, "", 0)), gets([]int{1}, arms(1, 1, 2, []int{1}, nil, ins("tick", 0, "", 0))), answer(1))
	list := allocated(t, c)
	for _, args := range [][]int{{0}, {6}} {
		same(t, c, list, args, nil, 3)
	}
	if a := list[len(list)-1]; len(a.Blocks) != 3 || len(a.Blocks[1].Ins) != 1 {
		t.Error(codeText(a))
	}
}

// P103, P102: what is done in so many blocks that a walk just ends is done in no more of them.
func TestAllocLong(t *testing.T) {
	for _, byArm := range []bool{false, true} {
		c := turn([]int{1, 2, 0}, byArm)
		// In each turn block 1, or 1 and 2; and one ahead and one behind that.
		most := 99997
		if !byArm {
			most = 49998
		}
		for i := range c.Blocks {
			c.Blocks[i].Ins = slices.DeleteFunc(c.Blocks[i].Ins, func(x place.Ins) bool { return x.Kind == "print" })
		}
		list := allocated(t, c)
		if d := same(t, c, list[4:], []int{most}, nil, math.MaxInt); d.How != "done" || d.Ticks != most+1 {
			t.Error(byArm, told(d))
		}
		if d := same(t, c, nil, []int{most + 1}, nil, math.MaxInt); d.How != "stuck" {
			t.Error(byArm, told(d))
		}
	}
}

// web: as many blocks as there may be, half of which get a value, from others that lead to two blocks each.
func web() place.Code {
	c := values(1, api.MaxBlocks)
	for i := range api.MaxBlocks {
		var b place.Block
		b.Ins = []place.Ins{ins("tick", 0, "", 0)}
		switch {
		case i == 0:
			b.Ins = append(b.Ins, ins("param", 0, "", 0))
		case i%2 == 0:
			b.Ins = append(b.Ins, ins("one", i, "-", 0, 0))
		default:
			b.Params = []int{i}
			b.Ins = append(b.Ins, ins("print", 0, "", 0, i))
		}
		b.End, b.V = "if", i
		for _, to := range []int{i*7%(api.MaxBlocks-1) + 1, i * i % api.MaxBlocks} {
			var with []int
			if to%2 == 1 {
				with = []int{i}
			}
			b.To, b.With = append(b.To, to), append(b.With, with)
		}
		c.Blocks = append(c.Blocks, b)
	}
	return c
}

// crowd: block 1 has half of all values as its Params, which many blocks pass to it, turned around.
func crowd() place.Code {
	many := api.MaxNodes / 2
	c := values(0, api.MaxNodes, place.Block{})
	var first, params []int
	for v := range many {
		first, params = append(first, v), append(params, many+v)
		c.Blocks[0].Ins = append(c.Blocks[0].Ins, ins("const", v, "", v*v))
	}
	c.Blocks[0] = on(1, first, c.Blocks[0].Ins...)
	c.Blocks = append(c.Blocks, gets(params, arms(many, 9, 17, nil, nil, ins("print", 0, "", 0, many), ins("print", 0, "", 0, many+77))))
	for i := range 200 {
		c.Blocks = append(c.Blocks, arms(many+i, 1, (i+7)%200+2, slices.Concat(params[i:], params[:i]), nil, ins("tick", 0, "", 0)))
	}
	return c
}

// long: as many values as there may be in one block, all asked for at its end.
func long() place.Code {
	b := answer(0, ins("param", 0, "", 0))
	for v := 1; v < api.MaxNodes; v++ {
		b.Ins = append(b.Ins, ins("two", v, "+", 0, v-1, v/2))
	}
	for v := range api.MaxNodes {
		b.Ins = append(b.Ins, ins("print", 0, "", 0, v))
	}
	return values(1, api.MaxNodes, b)
}

// far: as many values as there may be, made in the first block and asked for in the last one, with as many blocks between as there may be.
func far() place.Code {
	c := values(1, api.MaxNodes, on(1, nil))
	last := answer(0)
	for v := range api.MaxNodes {
		c.Blocks[0].Ins = append(c.Blocks[0].Ins, ins("const", v, "", v))
		last.Ins = append(last.Ins, ins("print", 0, "", 0, v))
	}
	for i := 1; i < api.MaxBlocks-1; i++ {
		c.Blocks = append(c.Blocks, arms(i, i+1, 0, nil, nil))
	}
	c.Blocks = append(c.Blocks, last)
	return c
}

// P1, P103: as much as there may be.
func TestAllocFull(t *testing.T) {
	for i, c := range []place.Code{web(), crowd(), long(), far()} {
		if err := place.Check(c); err != nil {
			t.Fatal(i, err)
		}
		a := allocIn(t, c, api.Regs)
		if i == 0 && len(a.Blocks) <= api.MaxBlocks {
			t.Error("each arm that passes a value asks for a block of its own")
		}
		for ticks := range 6 {
			if d := same(t, c, []alloc.Code{a}, []int{3}[:c.Params], nil, ticks*20); d.How == "stuck" {
				t.Error(i, told(d))
			}
		}
	}
}

// P103: place.Check's errors, bare or with their place. (And a call of more than a call of registers can have.)
func TestAllocErrors(t *testing.T) {
	call := func(many int) place.Block {
		return answer(0, ins("param", 0, "", 0), ins("call", 1, "h", 0, make([]int, many)...))
	}
	for _, c := range []struct {
		what string
		c    place.Code
		want error
	}{
		{"too many blocks", values(0, 0, make([]place.Block, api.MaxBlocks+1)...), api.ErrFull},
		{"too many values", values(0, api.MaxNodes+1, answer(0)), api.ErrFull},
		{"nothing at all", place.Code{}, api.ErrShape},
		{"block 0 has Params", values(0, 1, gets([]int{0}, answer(0))), api.ErrShape},
		{"fewer values than none", values(0, -1, answer(0)), api.ErrShape},
		{"too many parameters", values(5, 1, answer(0)), api.ErrArgs},
		{"no kind", values(1, 2, on(1, nil), answer(0, ins("what", 0, "", 0))), &api.Fault{At: 1, Err: api.ErrKind}},
		{"no end", values(1, 2, place.Block{}), &api.Fault{At: 0, Err: api.ErrKind}},
		{"no value", values(1, 2, on(1, nil), on(0, nil), answer(2)), &api.Fault{At: 2, Err: api.ErrBound}},
		{"no block", values(1, 2, on(1, nil)), &api.Fault{At: 0, Err: api.ErrBound}},
		{"too few", values(1, 2, on(1, []int{0}), answer(0)), &api.Fault{At: 0, Err: api.ErrShape}},
		{"a value twice", values(1, 2, on(1, nil, ins("param", 0, "", 0)), answer(0, ins("param", 0, "", 0))), &api.Fault{At: 1, Err: api.ErrExist}},
		{"too many for a call", values(1, 2, call(api.MaxParams+1)), api.ErrBound},
		{"too many for a call, behind another error", values(1, 2, call(9), answer(2)), &api.Fault{At: 1, Err: api.ErrBound}},
	} {
		a, err := alloc.Alloc(c.c)
		if !reflect.DeepEqual(err, c.want) || !reflect.DeepEqual(a, alloc.Code{}) {
			t.Errorf("%s: %v, want %v\n%s", c.what, err, c.want, codeText(a))
		}
	}
	for many := range api.MaxParams + 1 {
		c := values(1, 2, call(many))
		same(t, c, allocated(t, c), []int{6}, []int{7}, 0)
	}
}

// P2, P3, P4: the same is made of the same, in new memory, of what is only read, to its length.
func TestAllocMemory(t *testing.T) {
	c := turn([]int{1, 2, 3, 4, 5, 6, 7, 8, 0}, true)
	c.Blocks = append(c.Blocks, place.Block{End: "what"})[:len(c.Blocks)]
	for i := range c.Blocks {
		b := &c.Blocks[i]
		b.Params = append(slices.Clone(b.Params), -1)[:len(b.Params)]
		b.Ins = append(slices.Clone(b.Ins), ins("what", 0, "", 0))[:len(b.Ins)]
		b.To = append(slices.Clone(b.To), -1)[:len(b.To)]
		for k := range b.With {
			b.With[k] = append(slices.Clone(b.With[k]), -1)[:len(b.With[k])]
		}
		for k, x := range b.Ins {
			b.Ins[k].Args = append(slices.Clone(x.Args), -1)[:len(x.Args)]
		}
	}
	before, first := valueText(c), allocIn(t, c, api.Regs)
	want := codeText(first)
	var group sync.WaitGroup
	for range 20 {
		group.Go(func() {
			if a, err := alloc.Alloc(c); err != nil || codeText(a) != want {
				t.Error("another one")
			}
		})
	}
	group.Wait()
	second := allocIn(t, c, api.Regs)
	for i := range second.Blocks {
		b := &second.Blocks[i]
		for k := range b.Ins[:cap(b.Ins)] {
			b.Ins[:cap(b.Ins)][k].Num = -1 - i
		}
		for k := range b.To[:cap(b.To)] {
			b.To[:cap(b.To)][k] = -1 - i
		}
	}
	for i, b := range second.Blocks {
		if slices.ContainsFunc(b.Ins, func(x alloc.Low) bool { return x.Num != -1-i }) || slices.ContainsFunc(b.To, func(to int) bool { return to != -1-i }) {
			t.Fatal("two lists share their memory")
		}
	}
	if valueText(c) != before || codeText(first) != want {
		t.Error("it was changed")
	}
	for i := range c.Blocks {
		b := &c.Blocks[i]
		if b.To[:len(b.To)+1][len(b.To)] != -1 || b.Params[:len(b.Params)+1][len(b.Params)] != -1 || b.Ins[:len(b.Ins)+1][len(b.Ins)].Kind != "what" {
			t.Error("it was changed behind its length")
		}
		for k := range b.Ins {
			b.Ins[k].Name, b.Ins[k].Num = "x", 9
		}
		for k := range b.To {
			b.To[k] = 0
		}
	}
	if codeText(first) != want {
		t.Error("it was kept")
	}
}
