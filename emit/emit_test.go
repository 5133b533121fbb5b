package emit_test

import (
	"errors"
	"fmt"
	"math"
	"reflect"
	"slices"
	"strings"
	"sync"
	"testing"

	"kelpforest/alloc"
	"kelpforest/api"
	"kelpforest/emit"
	"kelpforest/fold"
	"kelpforest/graph"
	"kelpforest/lex"
	"kelpforest/place"
	"kelpforest/plain"
	"kelpforest/run"
	"kelpforest/tree"
	"kelpforest/val"
)

// of: a code of this name, with so many parameters and slots.
func of(name string, params, slots int, l ...alloc.Block) alloc.Code {
	return alloc.Code{Name: name, Params: params, Slots: slots, Blocks: l}
}

func returns(a int, l ...alloc.Low) alloc.Block {
	return alloc.Block{Ins: l, End: "return", A: a}
}

func jumps(to int, l ...alloc.Low) alloc.Block {
	return alloc.Block{Ins: l, End: "jump", To: []int{to}}
}

func branches(a, yes, no int, l ...alloc.Low) alloc.Block {
	return alloc.Block{Ins: l, End: "if", A: a, To: []int{yes, no}}
}

func ticks() alloc.Low                     { return alloc.Low{Kind: "tick"} }
func param(d, num int) alloc.Low           { return alloc.Low{Kind: "param", D: d, Num: num} }
func number(d, num int) alloc.Low          { return alloc.Low{Kind: "const", D: d, Num: num} }
func one(op string, d, a int) alloc.Low    { return alloc.Low{Kind: "one", D: d, A: a, Name: op} }
func two(op string, d, a, b int) alloc.Low { return alloc.Low{Kind: "two", D: d, A: a, B: b, Name: op} }
func moves(d, a int) alloc.Low             { return alloc.Low{Kind: "move", D: d, A: a} }
func loads(d, slot int) alloc.Low          { return alloc.Low{Kind: "load", D: d, Num: slot} }
func stores(slot, a int) alloc.Low         { return alloc.Low{Kind: "store", A: a, Num: slot} }
func prints(a int) alloc.Low               { return alloc.Low{Kind: "print", A: a} }
func arg(num, a int) alloc.Low             { return alloc.Low{Kind: "arg", Num: num, A: a} }
func calls(name string, d, num int) alloc.Low {
	return alloc.Low{Kind: "call", D: d, Num: num, Name: name}
}

// emitted: the image of codes, which is well and has their functions.
func emitted(t *testing.T, l ...alloc.Code) emit.Image {
	t.Helper()
	m, err := emit.Emit(l)
	if err != nil {
		t.Fatalf("%v\n%+v", err, l)
	}
	if err := emit.Check(m); err != nil {
		t.Fatalf("%v\n%+v\n%s", err, l, text(m))
	}
	if len(m.Funs) != len(l) {
		t.Fatal(m.Funs)
	}
	for i, c := range l {
		if f := m.Funs[i]; f.Name != c.Name || f.Params != c.Params || f.Slots != c.Slots {
			t.Fatalf("%+v of %s with %d and %d", f, c.Name, c.Params, c.Slots)
		}
	}
	return m
}

// text of an image.
func text(m emit.Image) string {
	return fmt.Sprintf("%+v\n%s", m.Funs, strings.Join(emit.List(m), "\n"))
}

func told(d graph.Done) string {
	return fmt.Sprint(d.How, " ", d.Value, " ", d.Ticks, " ", d.Out, " ", d.Calls)
}

// alone: that a function of an image does by itself as its code's walk.
func alone(t *testing.T, m emit.Image, l []alloc.Code, k int, args, answers []int, ticks int) graph.Done {
	t.Helper()
	want := alloc.Walk(l[k], args, answers, ticks)
	if want.How == "stuck" {
		return want
	}
	if d := ranAlone(m, k, args, answers, ticks); told(d) != told(want) {
		t.Fatalf("%s of %v with %v and %d ticks: %s, want %s\n%+v\n%s", l[k].Name, args, answers, ticks, told(d), told(want), l, text(m))
	}
	return want
}

// together: that a function of an image does, with the others, as the codes' walks.
func together(t *testing.T, m emit.Image, l []alloc.Code, k int, args []int, ticks int) api.Outcome {
	t.Helper()
	want := walked(t, l, k, args, ticks)
	if want.How == "stuck" {
		return want
	}
	if o := ran(t, m, k, args, ticks); fmt.Sprint(o) != fmt.Sprint(want) {
		t.Fatalf("%s of %v with %d ticks: %+v, want %+v\n%+v\n%s", l[k].Name, args, ticks, o, want, l, text(m))
	}
	return want
}

// fine: a code that is well, of this name.
func fine(name string, params int) alloc.Code { return of(name, params, 0, returns(0)) }

// P121: errors, each ahead of those that are named behind it, at the first code.
func TestEmitErrors(t *testing.T) {
	caller := func(name string, l ...alloc.Low) alloc.Code { return of(name, 0, 0, jumps(1), returns(0, l...)) }
	noKind := of("g", 0, 0, jumps(1), returns(0, alloc.Low{Kind: "what"}))
	long := of("f", 0, 0, returns(0, slices.Repeat([]alloc.Low{ticks()}, api.MaxWords)...))
	eight := func(c alloc.Code) []alloc.Code {
		l := []alloc.Code{c}
		for i := range api.MaxFuns - 1 {
			l = append(l, fine(fmt.Sprint("f", i), 0))
		}
		return l
	}
	list := func(l ...alloc.Code) []alloc.Code { return l }
	for _, c := range []struct {
		what string
		l    []alloc.Code
		at   int
		want error
	}{
		{"too many", append(eight(fine("f", 0)), fine("g", 0)), -1, api.ErrFull},
		{"too many, ahead of all else", make([]alloc.Code, api.MaxFuns+1), -1, api.ErrFull},
		{"too many, one of them too long", append(eight(long), fine("g", 0)), -1, api.ErrFull},
		{"no blocks", list(fine("f", 0), alloc.Code{Name: "g"}), 1, api.ErrShape},
		{"too many blocks", list(of("f", 0, 0, make([]alloc.Block, 3*api.MaxBlocks+1)...)), 0, api.ErrFull},
		{"too many Params", list(fine("f", 0), fine("g", 5), fine("h", 5)), 1, api.ErrArgs},
		{"too many Slots", list(of("f", 0, api.MaxNodes+1, returns(0))), 0, api.ErrBound},
		{"no kind, in block 1 of code 2", list(fine("f", 0), fine("h", 0), noKind), 2, api.ErrKind},
		{"no register", list(fine("f", 0), of("g", 0, 0, returns(8))), 1, api.ErrBound},
		{"a slot that is none", list(of("f", 0, 3, returns(0, loads(0, 3)))), 0, api.ErrBound},
		{"a field too much", list(of("f", 0, 0, returns(0, alloc.Low{Kind: "tick", D: 1}))), 0, api.ErrShape},
		{"not well, ahead of its name", list(fine("g", 0), noKind), 1, api.ErrKind},
		{"not well, without a name", list(alloc.Code{}), 0, api.ErrShape},
		{"a name twice", list(fine("f", 0), fine("g", 0), fine("f", 1)), 2, api.ErrExist},
		{"a name twice, ahead of one that is not well", list(fine("f", 0), fine("f", 0), noKind), 1, api.ErrExist},
		{"no name", list(fine("f", 0), fine("", 0)), 1, api.ErrName},
		{"no name, twice", list(fine("f", 0), fine("", 0), fine("", 0)), 1, api.ErrName},
		{"no name, ahead of a name twice", list(fine("", 0), fine("f", 0), fine("f", 0)), 0, api.ErrName},
		{"calls nobody", list(fine("f", 0), caller("g", calls("h", 0, 0))), 1, api.ErrNone},
		{"calls what has no name", list(fine("f", 0), caller("g", calls("", 0, 0))), 1, api.ErrNone},
		{"calls another name", list(fine("f", 0), caller("g", calls("F", 0, 0))), 1, api.ErrNone},
		{"too many arguments", list(caller("f", calls("g", 0, 2)), fine("g", 1)), 0, api.ErrArgs},
		{"too few arguments", list(fine("f", 4), caller("g", calls("f", 0, 3))), 1, api.ErrArgs},
		{"itself with too many", list(caller("f", calls("f", 0, 1))), 0, api.ErrArgs},
		{"nobody, behind too many arguments", list(caller("f", calls("f", 0, 1), calls("g", 0, 0))), 0, api.ErrNone},
		{"nobody, ahead of too many arguments", list(caller("f", calls("g", 0, 0), calls("f", 0, 1))), 0, api.ErrNone},
		{"too many arguments, ahead of a code that calls nobody", list(caller("f", calls("f", 0, 1)), caller("g", calls("h", 0, 0))), 0, api.ErrArgs},
		{"where nobody comes", list(of("f", 0, 0, returns(0), returns(0, calls("g", 0, 0)))), 0, api.ErrNone},
		{"nobody, ahead of a code that is not well", list(caller("f", calls("h", 0, 0)), noKind), 1, api.ErrKind},
		{"too many arguments, ahead of a name twice", list(caller("f", calls("f", 0, 1)), fine("f", 0)), 1, api.ErrExist},
		{"too many arguments, ahead of no name", list(caller("f", calls("f", 0, 1)), fine("", 0)), 1, api.ErrName},
		{"too many words", list(long), -1, api.ErrFull},
		{"too many words, behind a call of nobody", list(long, caller("g", calls("h", 0, 0))), 1, api.ErrNone},
		{"too many words, behind too many arguments", list(long, caller("g", calls("f", 0, 1))), 1, api.ErrArgs},
	} {
		m, err := emit.Emit(c.l)
		got, place := plain.Code(err)
		want, _ := plain.Code(c.want)
		if got != want || place != c.at || !errors.Is(err, c.want) || len(m.Funs)+len(m.Words) > 0 {
			t.Errorf("%s: %v at %d, want %v at %d", c.what, err, place, c.want, c.at)
		}
	}
	var f *api.Fault
	if _, err := emit.Emit(list(fine("f", 0), fine("h", 0), noKind)); !errors.As(err, &f) || !reflect.DeepEqual(f.Err, at(1, api.ErrKind)) {
		t.Error("alloc.Check's error has its own place", err)
	}
}

// P121: of nothing, nothing; and as many functions as may be, that call each other.
func TestEmitMost(t *testing.T) {
	for _, l := range [][]alloc.Code{nil, {}} {
		if m, err := emit.Emit(l); err != nil || len(m.Funs)+len(m.Words) != 0 {
			t.Error(m, err)
		}
	}
	var l []alloc.Code
	name := func(k int) string { return []string{"f", "g", "h h", "1", "{", "é", "FF", "main"}[k%api.MaxFuns] }
	for k := range api.MaxFuns {
		l = append(l, of(name(k), 1, api.MaxNodes, branches(1, 1, 2, param(1, 0), number(2, 1), prints(1)), returns(1, ticks(), stores(999, 1), two("-", 1, 1, 2), arg(0, 1), calls(name(k+3), 1, 1), loads(2, 999), two("+", 1, 1, 2)), returns(2, number(2, -k))))
	}
	m := emitted(t, l...)
	seen := map[string]int{}
	for k := range l {
		for _, n := range []int{0, 1, 9, 39, 40, 100} {
			for _, most := range []int{0, 1, 2, 15, 79, 80, 5000} {
				seen[together(t, m, l, k, []int{n}, most).How]++
				alone(t, m, l, k, []int{n}, []int{4}, most)
				alone(t, m, l, k, []int{n}, nil, most)
			}
		}
	}
	if seen["done"] == 0 || seen["tired"] == 0 || seen["deep"] == 0 {
		t.Error(seen)
	}
}

// P121: as many words as there may be, and one more; and codes that must have room, whatever is in them.
func TestEmitFull(t *testing.T) {
	repeat := func(many int, x alloc.Low) alloc.Code {
		return of("f", 0, 1, returns(0, slices.Repeat([]alloc.Low{x}, many)...))
	}
	if m := emitted(t, repeat(api.MaxWords-1, number(0, 5))); len(m.Words) != api.MaxWords {
		t.Error(len(m.Words))
	}
	for i, l := range [][]alloc.Code{{repeat(api.MaxWords, number(0, 5))}, {repeat(api.MaxWords-1, ticks()), fine("g", 0)}, {repeat(100000, stores(0, 0))}} {
		if m, err := emit.Emit(l); err != api.ErrFull || len(m.Funs)+len(m.Words) > 0 {
			t.Error(i, err)
		}
	}
	const third = api.MaxWords / 3
	wide := slices.Repeat([]alloc.Low{number(3, math.MinInt), calls("g", 4, 0), one("-", 3, 3)}, third)
	var ifs []alloc.Block
	for i := range third - 1 {
		ifs = append(ifs, branches(i%8, i/2, i/3))
	}
	for i, c := range []alloc.Code{of("f", 0, 0, returns(3, wide[:third-2]...)), of("f", 0, 0, ifs...), of("f", 0, 0, returns(3, slices.Repeat(wide[:1], third-2)...))} {
		l := []alloc.Code{c, fine("g", 0)}
		many := 0
		for _, c := range l {
			for _, b := range c.Blocks {
				many += 1 + len(b.Ins)
			}
		}
		if many != third {
			t.Fatal(i, many)
		}
		m := emitted(t, l...)
		if i != 1 {
			together(t, m, l, 0, nil, api.MaxTicks)
		}
	}
}

// P121: numbers of all sizes become what they are.
func TestEmitNumbers(t *testing.T) {
	edges := []int{0, 1, -1, math.MaxInt, math.MinInt, math.MaxInt32, math.MinInt32, math.MaxInt32 + 1, math.MinInt32 - 1, math.MaxUint32, math.MaxUint32 + 1, -math.MaxUint32, -math.MaxUint32 - 1, -math.MaxUint32 - 2, 0x123456789abcdef, -0x123456789abcdef, 0x7fffffff80000000, 0x80000000, -0x80000000 << 20}
	for shift := range 63 {
		edges = append(edges, 1<<shift, 1<<shift-1, -1<<shift, -1<<shift-1, 0x5a5a5a5a<<shift)
	}
	for i, n := range edges {
		l := []alloc.Code{of("f", 0, 0, returns(i%8, number((i+1)%8, 7), number(i%8, n), prints(i%8), prints((i+1)%8)))}
		m := emitted(t, l...)
		if d := alone(t, m, l, 0, nil, nil, 0); d.Value != n || len(m.Words) > 6 {
			t.Error(n, told(d), text(m))
		}
	}
}

// P121: every op, with each register as each of its own.
func TestEmitOps(t *testing.T) {
	pairs := [][]int{{7, 2}, {-7, 2}, {2, -7}, {0, 0}, {1, 0}, {5, 5}, {math.MinInt, -1}, {math.MaxInt, 1}, {1, 70}, {-9, 3}}
	for _, op := range val.Ops() {
		for regs := range 8 * 8 * 8 {
			d, a, b := regs%8, regs/8%8, regs/64
			l := []alloc.Code{of("f", 2, 0, returns(d, param(a, 0), param(b, 1), two(op, d, a, b), prints(a), prints(b)))}
			m := emitted(t, l...)
			for _, p := range pairs {
				alone(t, m, l, 0, p, nil, 0)
			}
		}
	}
	for regs := range 8 * 8 {
		d, a := regs%8, regs/8
		for _, x := range []alloc.Low{one("-", d, a), one("!", d, a), moves(d, a)} {
			l := []alloc.Code{of("f", 2, 0, returns(d, param(a, 0), x, prints(a)))}
			m := emitted(t, l...)
			for _, p := range pairs {
				alone(t, m, l, 0, p, nil, 0)
			}
		}
	}
}

// P121: all ways of blocks to each other: each of three ends, each to each.
func TestEmitWays(t *testing.T) {
	var ends []alloc.Block
	for to := range 3 {
		ends = append(ends, jumps(to))
		for no := range 3 {
			ends = append(ends, branches(1, to, no))
		}
	}
	ends = append(ends, returns(2))
	for n := range len(ends) * len(ends) * len(ends) {
		l := []alloc.Code{fine("g", 2), of("f", 1, 0)}
		for k := range 3 {
			b := ends[n%len(ends)]
			n /= len(ends)
			// Each turn has a tick, and changes what the ifs ask.
			b.Ins = []alloc.Low{ticks(), number(3, k), prints(3), two("+", 2, 2, 3), one("!", 1, 1)}
			if k == 0 {
				b.Ins = append([]alloc.Low{param(1, 0)}, b.Ins...)
			}
			l[1].Blocks = append(l[1].Blocks, b)
		}
		m := emitted(t, l...)
		for _, a := range []int{0, 1} {
			alone(t, m, l, 1, []int{a}, nil, 12)
		}
	}
}

// P121: blocks without anything in them, first and last ones too; and a turn in which nothing is.
func TestEmitEmpty(t *testing.T) {
	for i, c := range []alloc.Code{
		of("f", 1, 0, jumps(1), jumps(2), returns(0, param(0, 0))),
		of("f", 1, 0, jumps(2), returns(0, param(0, 0)), jumps(1)),
		of("f", 1, 0, branches(0, 1, 1), returns(0, param(0, 0))),
		of("f", 1, 0, branches(0, 2, 1), jumps(2), branches(7, 0, 3), returns(0, param(0, 0))),
		of("f", 1, 0, jumps(3), returns(1), returns(2), branches(3, 2, 4), returns(0, param(0, 0)), jumps(0)),
	} {
		l := []alloc.Code{fine("e", 0), c, fine("g", 0)}
		m := emitted(t, l...)
		for _, a := range []int{0, 8} {
			if d := alone(t, m, l, 1, []int{a}, nil, 0); d.How != "done" || d.Value != a {
				t.Error(i, told(d))
			}
		}
	}
	for i, c := range []alloc.Code{of("f", 0, 0, jumps(0)), of("f", 0, 0, jumps(1), jumps(0)), of("f", 0, 0, branches(0, 0, 1), jumps(0)), of("f", 0, 0, jumps(1), branches(0, 0, 1))} {
		l := []alloc.Code{c, fine("g", 0)}
		if o := ran(t, emitted(t, l...), 0, nil, 9); o.How != "stuck" || o.Ticks != 1 {
			t.Error(i, o)
		}
	}
}

// P121: calls go to the codes of their names, with the arguments that were told since the last one, and 0 else.
func TestEmitCalls(t *testing.T) {
	digits := of("d", 4, 0, returns(0, param(0, 0), number(7, 10), two("*", 0, 0, 7), param(1, 1), two("+", 0, 0, 1), two("*", 0, 0, 7), param(1, 2), two("+", 0, 0, 1), two("*", 0, 0, 7), param(1, 3), two("+", 0, 0, 1)))
	ones := []alloc.Low{number(1, 1), number(2, 2), number(3, 3)}
	l := []alloc.Code{
		of("all", 0, 0, returns(4, append(ones, arg(3, 3), arg(1, 2), arg(0, 1), arg(2, 1), calls("d", 4, 4))...)),
		digits,
		of("some", 0, 0, returns(4, append(ones, arg(1, 2), arg(3, 3), arg(1, 1), calls("d", 4, 4), prints(4), arg(2, 3), calls("d", 4, 4))...)),
		of("ahead", 0, 0, jumps(1, append(ones, arg(0, 3))...), returns(4, calls("none", 5, 0), calls("d", 4, 4))),
		of("none", 0, 2, returns(1, prints(0), loads(1, 1), number(0, 5), stores(1, 0), prints(1))),
		of("own", 1, 1, returns(3, param(3, 0), stores(0, 3), calls("none", 2, 0), calls("none", 2, 0), prints(3), loads(4, 0), prints(4))),
	}
	m := emitted(t, l...)
	for k, want := range []string{"{done 1213 [] 2}", "", "{done 30 [103] 3}", "{done 0 [0 0] 3}", "{done 0 [0 0] 1}", "{done 9 [0 0 0 0 9 9] 3}"} {
		if k == 1 {
			continue
		}
		if o := together(t, m, l, k, []int{9}[:l[k].Params], 20); fmt.Sprint(o) != want {
			t.Errorf("%s: %v, want %s\n%s", l[k].Name, o, want, text(m))
		}
	}
}

// P2, P3, P4: the same is made of the same, in new memory, of what is only read, to its length.
func TestEmitMemory(t *testing.T) {
	l := []alloc.Code{
		of("f", 1, 1, branches(1, 1, 0, param(1, 0), number(2, math.MaxInt), arg(0, 2), calls("g", 3, 2)), returns(2, stores(0, 1))),
		of("g", 2, 0, returns(1, ticks())),
	}
	l = append(l, alloc.Code{})[:2]
	for i := range l {
		l[i].Blocks = append(l[i].Blocks, alloc.Block{End: "what"})[:len(l[i].Blocks)]
		for k := range l[i].Blocks {
			b := &l[i].Blocks[k]
			b.Ins = append(b.Ins, alloc.Low{Kind: "what"})[:len(b.Ins)]
			b.To = append(b.To, -1)[:len(b.To)]
		}
	}
	before, first := fmt.Sprint(l), emitted(t, l...)
	want := text(first)
	var group sync.WaitGroup
	for range 20 {
		group.Go(func() {
			if m, err := emit.Emit(l); err != nil || text(m) != want {
				t.Error("another one", err)
			}
		})
	}
	group.Wait()
	second := emitted(t, l...)
	second.Funs[0].Name, second.Words[0] = "x", 0
	if fmt.Sprint(l) != before || text(first) != want || l[:3][2].Name != "" {
		t.Error("it was changed")
	}
	for i := range l {
		b := &l[i].Blocks[0]
		if b.Ins[:len(b.Ins)+1][len(b.Ins)].Kind != "what" || b.To[:len(b.To)+1][len(b.To)] != -1 {
			t.Error("it was changed behind its length")
		}
		l[i].Name, b.Ins[0], b.End = "y", alloc.Low{}, ""
	}
	if text(first) != want {
		t.Error("it was kept")
	}
}

// parsed: a program of a text.
func parsed(t *testing.T, s string) []tree.Fun {
	t.Helper()
	tokens, err := lex.Read(s)
	if err != nil {
		t.Fatal(err)
	}
	p, err := tree.Parse(tokens)
	if err != nil {
		t.Fatal(err)
	}
	return p
}

// compiled: codes of a program, made better or not.
func compiled(t *testing.T, p []tree.Fun, better bool) []alloc.Code {
	t.Helper()
	var l []alloc.Code
	for _, f := range p {
		g, err := graph.Build(f)
		if err == nil && better {
			g, err = fold.Fold(g)
		}
		var c place.Code
		if err == nil {
			c, err = place.Place(g)
		}
		var a alloc.Code
		if err == nil {
			a, err = alloc.Alloc(c)
		}
		if err != nil {
			t.Fatal(err)
		}
		l = append(l, a)
	}
	return l
}

// P123: a program does as an image what it does as it stands.
func TestPrograms(t *testing.T) {
	for _, c := range []struct {
		text string
		args [][]int
	}{
		{"fn main(a) { var s = 0; while a { s = s + a; a = a - 1; } return s; }", [][]int{{4}, {0}, {90}, {-1}}},
		{"fn main(n) { if n < 2 { return n; } return main(n - 1) + main(n - 2); }", [][]int{{0}, {1}, {10}, {50}, {-3}}},
		{"fn odd(n) { if n == 0 { return 0; } return even(n - 1); } fn even(n) { if n == 0 { return 1; } return odd(n - 1); } fn main(n) { print odd(n); print even(n); return odd(n) - even(n); }", [][]int{{0}, {7}, {30}, {39}, {60}}},
		{"fn swap(a, b, c, d) { print a; print b; print c; print d; return a * 1000 + b * 100 + c * 10 + d; } fn main(a) { var b = a + 1; var c = b + 1; var d = c + 1; while a < 5 { var e = a; a = b; b = c; c = d; d = e + 4; print swap(d, c, b, a); } return swap(a, b, c, d) - swap(b, a, d, c); }", [][]int{{0}, {-9}, {8}}},
		{"fn main(a) { var b = 1; var c = 2; var d = 3; var e = 4; var f = 5; var g = 6; var h = 7; var i = 8; var j = 9; var k = 461168601842738790; while a { b = b + c; c = c + d; d = d ^ e; e = e - f; f = f * g; g = g + h; h = h | i; i = i << 1; j = j + k; k = k >> 1; a = a - 1; print b + c * d - e + f * g - h + i * j - k; } return b + c + d + e + f + g + h + i + j + k; }", [][]int{{0}, {1}, {20}, {70}}},
		{"fn main(a) { while 1 { print a; a = a + 1; } }", [][]int{{0}, {5}}},
		{"fn main() { return main(); }", [][]int{nil}},
		{"fn main(a, b) { print a / b; print a % b; print -a; print !a; print a <= b; print a != b; print a & b; print a >> b; return 922337203685477580 * a; }", [][]int{{7, 0}, {-7, 2}, {math.MinInt, -1}, {3, 65}}},
	} {
		p := parsed(t, c.text)
		for _, better := range []bool{false, true} {
			l := compiled(t, p, better)
			m := emitted(t, l...)
			for _, args := range c.args {
				for _, most := range []int{0, 1, 2, 3, 9, 41, 42, 80, 1000, api.MaxTicks} {
					want, err := run.Run(p, "main", args, most)
					if o := ran(t, m, len(l)-1, args, most); err != nil || fmt.Sprint(o) != fmt.Sprint(want) {
						t.Fatalf("of %v with %d ticks: %v, want %v, %v\n%s\n%s", args, most, o, want, err, c.text, text(m))
					}
				}
			}
		}
	}
}
