package alloc_test

import (
	"fmt"
	"math"
	"math/rand"
	"reflect"
	"slices"
	"testing"

	"kelpforest/alloc"
	"kelpforest/api"
	"kelpforest/graph"
	"kelpforest/val"
)

// told: how a walk ended, as text.
func told(d graph.Done) string {
	if len(d.Out) > 20 {
		return fmt.Sprint(d.How, " ", d.Value, " ", d.Ticks, " ", len(d.Out), " numbers to ", d.Out[len(d.Out)-1], " ", d.Calls)
	}
	return fmt.Sprint(d.How, " ", d.Value, " ", d.Ticks, " ", d.Out, " ", d.Calls)
}

// alike: the same, whether a list is nil or empty.
func alike(a, b graph.Done) bool { return told(a) == told(b) && slices.Equal(a.Out, b.Out) }

// of: a code with so many parameters and slots.
func of(params, slots int, l ...alloc.Block) alloc.Code {
	return alloc.Code{Name: "f", Params: params, Slots: slots, Blocks: l}
}

func returns(a int, l ...alloc.Low) alloc.Block {
	return alloc.Block{Ins: l, End: "return", A: a}
}

func jumps(to int, l ...alloc.Low) alloc.Block {
	return alloc.Block{Ins: l, End: "jump", To: []int{to}}
}

func branches(a, yes, no int, l ...alloc.Low) alloc.Block {
	return alloc.Block{Ins: l, End: "if", A: a, To: []int{yes, no}}
}

func param(d, num int) alloc.Low           { return alloc.Low{Kind: "param", D: d, Num: num} }
func number(d, num int) alloc.Low          { return alloc.Low{Kind: "const", D: d, Num: num} }
func two(op string, d, a, b int) alloc.Low { return alloc.Low{Kind: "two", D: d, A: a, B: b, Name: op} }
func prints(a int) alloc.Low               { return alloc.Low{Kind: "print", A: a} }
func arg(num, a int) alloc.Low             { return alloc.Low{Kind: "arg", Num: num, A: a} }
func calls(name string, d, num int) alloc.Low {
	return alloc.Low{Kind: "call", D: d, Num: num, Name: name}
}

// walk of a test.
type walk struct {
	what    string
	c       alloc.Code
	args    []int
	answers []int
	ticks   int
	want    string
}

func walks(t *testing.T, l []walk) {
	t.Helper()
	for _, c := range l {
		if err := alloc.Check(c.c); err != nil {
			t.Errorf("%s: %v", c.what, err)
		}
		if s := told(alloc.Walk(c.c, c.args, c.answers, c.ticks)); s != c.want {
			t.Errorf("%s: of %v with %v and %d ticks: %s, want %s", c.what, c.args, c.answers, c.ticks, s, c.want)
		}
	}
}

// P102: Ins by Ins.
func TestWalk(t *testing.T) {
	tick := alloc.Low{Kind: "tick"}
	straight := of(2, 0, returns(1, param(0, 1), param(1, 0), two("-", 2, 1, 0), alloc.Low{Kind: "one", D: 7, A: 2, Name: "!"}, prints(2), prints(7), tick))
	branch := of(1, 0, branches(3, 2, 1, param(3, 0)), returns(3), returns(4, number(4, 5)))
	moves := of(1, 0, returns(0, param(0, 0), alloc.Low{Kind: "move", D: 1, A: 0}, number(0, 9), prints(1), two("+", 1, 1, 1), prints(1), alloc.Low{Kind: "move", D: 1, A: 1}, prints(1), alloc.Low{Kind: "one", D: 1, A: 1, Name: "-"}, prints(1)))
	walks(t, []walk{
		{"straight", straight, []int{7, 3}, nil, 1, "done 7 1 [4 0] []"},
		{"straight", straight, []int{3, 3}, []int{9}, 5, "done 3 1 [0 1] []"},
		{"straight", straight, []int{7, 3}, nil, 0, "over 0 0 [4 0] []"},
		{"straight", straight, []int{7, 3}, nil, math.MinInt, "over 0 0 [4 0] []"},
		{"straight", straight, []int{7, 3}, nil, math.MaxInt, "done 7 1 [4 0] []"},
		{"too few args", straight, []int{7}, nil, 1, "stuck 0 0 [] []"},
		{"too many args", straight, []int{7, 8, 9}, nil, 1, "stuck 0 0 [] []"},
		{"no args", branch, nil, nil, 1, "stuck 0 0 [] []"},
		{"yes", branch, []int{1}, nil, 0, "done 5 0 [] []"},
		{"yes", branch, []int{math.MinInt}, nil, 0, "done 5 0 [] []"},
		{"no", branch, []int{0}, nil, 0, "done 0 0 [] []"},
		{"moves", moves, []int{4}, nil, 0, "done 9 0 [4 8 8 -8] []"},
		{"a turn", of(1, 0, jumps(1, param(0, 0), number(1, 1)), branches(0, 1, 2, tick, two("-", 0, 0, 1), prints(0)), returns(0)), []int{3}, nil, 9, "done 0 3 [2 1 0] []"},
	})
}

// P102: registers and slots are 0 at first, in each walk.
func TestWalkFirst(t *testing.T) {
	var regs, slots []alloc.Low
	want := ""
	for r := range api.Regs {
		regs = append(regs, prints(r))
		slots = append(slots, alloc.Low{Kind: "load", D: r, Num: r}, prints(r), number(r, r+1), alloc.Low{Kind: "store", A: r, Num: r})
		want += " 0"
	}
	for r := range api.Regs {
		slots = append(slots, number(r, 50), alloc.Low{Kind: "load", D: r, Num: r}, prints(r))
	}
	for range 2 {
		walks(t, []walk{
			{"registers", of(0, 0, returns(7, append(regs, number(7, 1), number(0, 2))...)), nil, nil, 0, "done 1 0 [" + want[1:] + "] []"},
			{"slots", of(0, 8, returns(0, slots...)), nil, nil, 0, "done 1 0 [" + want[1:] + " 1 2 3 4 5 6 7 8] []"},
			{"answer", of(0, 0, returns(5)), nil, nil, 0, "done 0 0 [] []"},
			{"branch", of(0, 0, branches(5, 1, 2), returns(5, number(5, 1)), returns(5, number(5, 2))), nil, nil, 0, "done 2 0 [] []"},
			{"the last slot", of(0, api.MaxNodes, returns(0, number(1, 6), alloc.Low{Kind: "store", A: 1, Num: api.MaxNodes - 1}, alloc.Low{Kind: "load", D: 0, Num: api.MaxNodes - 1})), nil, nil, 0, "done 6 0 [] []"},
		})
	}
}

// P102: a call gets what was told since the last one, and else 0.
func TestWalkCalls(t *testing.T) {
	c := func(l ...alloc.Low) alloc.Code {
		return of(1, 0, returns(7, slices.Concat([]alloc.Low{param(0, 0), number(1, 10), number(2, 20)}, l)...))
	}
	long := c(arg(0, 0), calls("h", 3, 1), arg(1, 3), arg(0, 2), calls("k", 7, 2))
	walks(t, []walk{
		{"all", c(arg(0, 1), arg(1, 2), arg(2, 0), arg(3, 1), calls("h", 7, 4)), []int{5}, []int{6}, 0, "done 6 0 [] [{h [10 20 5 10]}]"},
		{"in any order, told again", c(arg(3, 1), arg(0, 1), arg(0, 2), arg(2, 0), calls("h", 7, 4)), []int{5}, []int{6}, 0, "done 6 0 [] [{h [20 0 5 10]}]"},
		{"as they were when told", c(arg(0, 1), number(1, 9), calls("h", 7, 1)), []int{5}, []int{6}, 0, "done 6 0 [] [{h [10]}]"},
		{"none told", c(calls("h", 7, 4)), []int{5}, []int{6}, 0, "done 6 0 [] [{h [0 0 0 0]}]"},
		{"none asked", c(arg(0, 1), calls("h", 7, 0), calls("k", 7, 1)), []int{5}, []int{6, 8}, 0, "done 8 0 [] [{h []} {k [0]}]"},
		{"more told than asked", c(arg(0, 1), arg(3, 2), calls("h", 7, 1), arg(1, 0), calls("k", 7, 4)), []int{5}, []int{6, 8}, 0, "done 8 0 [] [{h [10]} {k [0 5 0 0]}]"},
		{"nobody", c(calls("", 7, 0)), []int{5}, []int{6}, 0, "done 6 0 [] [{ []}]"},
		{"long", long, []int{5}, []int{6, 8}, 0, "done 8 0 [] [{h [5]} {k [20 6]}]"},
		{"long", long, []int{5}, []int{6}, 0, "over 0 0 [] [{h [5]}]"},
		{"long", long, []int{5}, nil, 0, "over 0 0 [] []"},
		{"long", long, []int{5}, []int{6, 8, 9}, 0, "done 8 0 [] [{h [5]} {k [20 6]}]"},
		{"told in a block ahead", of(0, 0, jumps(1, number(1, 4), arg(1, 1)), returns(7, calls("h", 7, 2))), nil, []int{6}, 0, "done 6 0 [] [{h [0 4]}]"},
	})
}

// P102: every op, as val has it.
func TestWalkOps(t *testing.T) {
	for _, a := range []int{0, 1, -1, 7, -7, 64, math.MaxInt, math.MinInt} {
		for _, op := range []string{"-", "!"} {
			want, _ := val.One(op, a)
			walks(t, []walk{{op, of(1, 0, returns(1, param(0, 0), alloc.Low{Kind: "one", D: 1, A: 0, Name: op})), []int{a}, nil, 0, fmt.Sprintf("done %d 0 [] []", want)}})
		}
		for _, b := range []int{0, 1, -1, 3, 65, math.MinInt} {
			for _, op := range val.Ops() {
				want, _ := val.Do(op, a, b)
				walks(t, []walk{{op, of(1, 0, returns(2, param(0, 0), number(1, b), two(op, 2, 0, 1))), []int{a}, nil, 0, fmt.Sprintf("done %d 0 [] []", want)}})
			}
		}
	}
}

// P102: prints to the last one that there may be; then it is over, and stuck after 100000 blocks.
func TestWalkMost(t *testing.T) {
	tick := alloc.Low{Kind: "tick"}
	loud := slices.Concat([]alloc.Low{number(0, 7)}, slices.Repeat([]alloc.Low{prints(0)}, api.MaxOut))
	sevens := fmt.Sprint(api.MaxOut, " numbers to 7 []")
	// turns: block 1 so often, then 2
	turns := func(l ...alloc.Low) alloc.Code {
		return of(1, 0, jumps(1, param(0, 0), number(1, 1)), branches(0, 1, 2, two("-", 0, 0, 1)), returns(1, l...))
	}
	walks(t, []walk{
		{"all prints", of(0, 0, returns(0, loud...)), nil, nil, 0, "done 7 0 " + sevens},
		{"one more", of(0, 0, returns(0, append(loud, number(0, 8), prints(0))...)), nil, nil, 0, "over 0 0 " + sevens},
		{"endless prints", of(0, 0, jumps(1, number(0, 7)), jumps(1, prints(0))), nil, nil, 0, "over 0 0 " + sevens},
		{"nothing", of(0, 0, jumps(0)), nil, nil, 0, "stuck 0 0 [] []"},
		{"ticks", of(0, 0, jumps(0, tick)), nil, nil, 100000, "stuck 0 100000 [] []"},
		{"ticks", of(0, 0, jumps(0, tick)), nil, nil, 99999, "over 0 99999 [] []"},
		{"two ticks", of(0, 0, jumps(0, tick, tick)), nil, nil, math.MaxInt, "stuck 0 200000 [] []"},
		{"two blocks", of(0, 0, jumps(1, tick), jumps(0)), nil, nil, math.MaxInt, "stuck 0 50000 [] []"},
		{"the last", turns(tick), []int{99998}, nil, 1, "done 1 1 [] []"},
		{"one more", turns(tick), []int{99999}, nil, 1, "stuck 0 0 [] []"},
	})
	d := alloc.Walk(of(0, 0, jumps(0, calls("h", 0, 0))), nil, make([]int, 100001), 0)
	if d.How != "stuck" || len(d.Calls) != 100000 {
		t.Error(d.How, len(d.Calls))
	}
}

// P102: what is not well is stuck with nothing.
func TestWalkNotWell(t *testing.T) {
	list, _ := trials()
	for at := range 4 {
		for _, x := range list {
			c := changed(func(c *alloc.Code) { c.Blocks[at].Ins = append(c.Blocks[at].Ins, x.Low) })
			if s := told(alloc.Walk(c, []int{1, 2}, []int{1}, 9)); x.want != nil && s != "stuck 0 0 [] []" {
				t.Error(at, x.Low, s)
			}
		}
		for _, e := range ends() {
			c := four()
			b := &c.Blocks[at]
			b.End, b.A, b.To = e.End, e.A, e.To
			if s := told(alloc.Walk(c, []int{1, 2}, []int{1}, 9)); e.want != nil && s != "stuck 0 0 [] []" {
				t.Error(at, e, s)
			}
		}
	}
	for i, c := range []alloc.Code{{}, of(5, 0, returns(0)), of(-1, 0, returns(0)), of(0, -1, returns(0)), of(0, 1001, returns(0)), of(0, 0, make([]alloc.Block, 3001)...)} {
		if s := told(alloc.Walk(c, make([]int, max(0, c.Params)), nil, 9)); s != "stuck 0 0 [] []" {
			t.Error(i, s)
		}
	}
	if s := told(alloc.Walk(four(), []int{1, 6}, []int{0}, 9)); s != "done 0 2 [11 5] [{h [11 0 0 -5]}]" {
		t.Error(s)
	}
}

// walkedBy: a walk by another way: all that there is in one map, by names; at most so many blocks. How is empty behind them.
func walkedBy(c alloc.Code, args, answers []int, ticks, most int) (d graph.Done) {
	has := map[string]int{}
	reg := func(r int) string { return fmt.Sprint("register ", r) }
	slot := func(k int) string { return fmt.Sprint("slot ", k) }
	next := func(k int) string { return fmt.Sprint("next ", k) }
	at := 0
	for range most {
		b := c.Blocks[at]
		for _, x := range b.Ins {
			switch {
			case x.Kind == "tick" && d.Ticks+1 > ticks, x.Kind == "print" && len(d.Out)+1 > api.MaxOut, x.Kind == "call" && len(d.Calls)+1 > len(answers):
				d.How = "over"
				return d
			case x.Kind == "tick":
				d.Ticks++
			case x.Kind == "print":
				d.Out = append(d.Out, has[reg(x.A)])
			case x.Kind == "arg":
				has[next(x.Num)] = has[reg(x.A)]
			case x.Kind == "call":
				has[reg(x.D)] = answers[len(d.Calls)]
				in := []int{}
				for k := range x.Num {
					in = append(in, has[next(k)])
				}
				for k := range api.MaxParams {
					delete(has, next(k))
				}
				d.Calls = append(d.Calls, graph.Call{Name: x.Name, Args: in})
			case x.Kind == "load":
				has[reg(x.D)] = has[slot(x.Num)]
			case x.Kind == "store":
				has[slot(x.Num)] = has[reg(x.A)]
			case x.Kind == "move":
				has[reg(x.D)] = has[reg(x.A)]
			case x.Kind == "param":
				has[reg(x.D)] = args[x.Num]
			case x.Kind == "const":
				has[reg(x.D)] = x.Num
			case x.Kind == "one":
				has[reg(x.D)], _ = val.One(x.Name, has[reg(x.A)])
			case x.Kind == "two":
				has[reg(x.D)], _ = val.Do(x.Name, has[reg(x.A)], has[reg(x.B)])
			}
		}
		if b.End == "return" {
			d.Value = has[reg(b.A)]
			d.How = "done"
			return d
		}
		k := 0
		if b.End == "if" && has[reg(b.A)] == 0 {
			k = 1
		}
		at = b.To[k]
	}
	return d
}

// coder of codes of registers by chance, that are well.
type coder struct {
	*rand.Rand
}

func (m *coder) ins(c alloc.Code) alloc.Low {
	ops := val.Ops()
	d, a, b := m.Intn(api.Regs), m.Intn(api.Regs), m.Intn(api.Regs)
	switch m.Intn(11) {
	case 0:
		return param(d, m.Intn(c.Params))
	case 1:
		return number(d, m.Intn(5)-2)
	case 2:
		return alloc.Low{Kind: "one", D: d, A: a, Name: []string{"-", "!"}[m.Intn(2)]}
	case 3:
		return two(ops[m.Intn(len(ops))], d, a, b)
	case 4:
		return alloc.Low{Kind: "move", D: d, A: a}
	case 5:
		return alloc.Low{Kind: "load", D: d, Num: m.Intn(c.Slots)}
	case 6:
		return alloc.Low{Kind: "store", A: a, Num: m.Intn(c.Slots)}
	case 7, 8:
		return arg(m.Intn(api.MaxParams), a)
	case 9:
		return prints(a)
	}
	return calls([]string{"h", "k"}[m.Intn(2)], d, m.Intn(api.MaxParams+1))
}

func (m *coder) code() alloc.Code {
	c := of(1+m.Intn(3), 1+m.Intn(3), make([]alloc.Block, 1+m.Intn(8))...)
	for i := range c.Blocks {
		b := &c.Blocks[i]
		for range m.Intn(15) {
			b.Ins = append(b.Ins, m.ins(c))
		}
		if m.Intn(3) > 0 {
			b.Ins = append(b.Ins, alloc.Low{Kind: "tick"})
		}
		many := []int{0, 1, 1, 2, 2, 2}[m.Intn(6)]
		b.End = []string{"return", "jump", "if"}[many]
		if many != 1 {
			b.A = m.Intn(api.Regs)
		}
		for range many {
			b.To = append(b.To, m.Intn(len(c.Blocks)))
		}
	}
	return c
}

func (m *coder) numbers(many int) []int {
	l := make([]int, many)
	for i := range l {
		l[i] = m.Intn(6) - 2
	}
	return l
}

// enough: are there enough of each kind that a test asks for?
func enough(t *testing.T, seen map[string]int, least int, kinds ...string) {
	t.Helper()
	for _, kind := range kinds {
		if seen[kind] < least {
			t.Errorf("too few that are %s: %v", kind, seen)
		}
	}
}

// P102, P101: codes by chance.
func TestWalkByChance(t *testing.T) {
	m := &coder{Rand: rand.New(rand.NewSource(102))}
	seen := map[string]int{}
	for range 10000 {
		c := m.code()
		if err := alloc.Check(c); err != nil {
			t.Fatalf("%v\n%+v", err, c)
		}
		args, answers, ticks := m.numbers(c.Params), m.numbers(m.Intn(15)), m.Intn(20)
		want := walkedBy(c, args, answers, ticks, 100)
		if want.How == "" {
			seen["endless"]++
			continue
		}
		seen[want.How]++
		if want.Ticks+len(want.Out)+len(want.Calls) > 3 {
			seen["long "+want.How]++
		}
		if d := alloc.Walk(c, args, answers, ticks); !alike(d, want) {
			t.Fatalf("of %v with %v and %d ticks: %s, want %s\n%+v", args, answers, ticks, told(d), told(want), c)
		}
	}
	enough(t, seen, 100, "done", "over", "long done", "long over")
}

// P2, P3, P4: lists are only read, to their length, and answers are new memory.
func TestWalkMemory(t *testing.T) {
	c := of(2, 1, returns(2, param(0, 0), param(1, 1), arg(0, 0), arg(1, 1), calls("h", 2, 2), arg(0, 2), calls("k", 3, 1), prints(1), prints(3)))
	args, answers := []int{5, 6, 7}, []int{8, 9, 10}
	want := "done 8 0 [6 9] [{h [5 6]} {k [8]}]"
	d, e := alloc.Walk(c, args[:2], answers[:2], 0), alloc.Walk(c, args[:2], answers[:2], 0)
	if told(d) != want || told(e) != want {
		t.Error(told(d), told(e))
	}
	if told(alloc.Walk(c, args[:2], answers[:1], 0)) != "over 0 0 [] [{h [5 6]}]" || told(alloc.Walk(c, args[:1], answers, 0)) != "stuck 0 0 [] []" {
		t.Error("behind a list's length")
	}
	d.Out[0], d.Calls[0].Args[0], d.Calls[1].Args[0] = -1, -1, -1
	if !slices.Equal(args, []int{5, 6, 7}) || !slices.Equal(answers, []int{8, 9, 10}) {
		t.Error("what was handed over was changed")
	}
	args[0], answers[0], c.Blocks[0].Ins[4].Name = 0, 0, "x"
	if told(e) != want {
		t.Error(told(e))
	}
	x := four()
	alloc.Walk(x, []int{3, 4}, []int{1, 2, 3}, 9)
	if !reflect.DeepEqual(x, four()) {
		t.Error("it was changed")
	}
}
