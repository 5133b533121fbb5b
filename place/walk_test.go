package place_test

import (
	"fmt"
	"math"
	"math/rand"
	"reflect"
	"slices"
	"testing"

	"kelpforest/api"
	"kelpforest/graph"
	"kelpforest/place"
	"kelpforest/val"
)

// told: how a walk ended, as text.
func told(d graph.Done) string {
	if len(d.Out) > 20 {
		return fmt.Sprint(d.How, " ", d.Value, " ", d.Ticks, " ", len(d.Out), " numbers to ", d.Out[len(d.Out)-1], " ", d.Calls)
	}
	return fmt.Sprint(d.How, " ", d.Value, " ", d.Ticks, " ", d.Out, " ", d.Calls)
}

// alike: the same, whether a list is nil or empty.
func alike(a, b graph.Done) bool { return told(a) == told(b) && slices.Equal(a.Out, b.Out) }

// of: a code with so many parameters and values.
func of(params, values int, l ...place.Block) place.Code {
	return place.Code{Name: "f", Params: params, Values: values, Blocks: l}
}

func returns(v int, l ...place.Ins) place.Block {
	return place.Block{Ins: l, End: "return", V: v}
}

func jumps(to int, with []int, l ...place.Ins) place.Block {
	return place.Block{Ins: l, End: "jump", To: []int{to}, With: [][]int{with}}
}

func branches(v, yes, no int, l ...place.Ins) place.Block {
	return place.Block{Ins: l, End: "if", V: v, To: []int{yes, no}, With: make([][]int, 2)}
}

// walk of a test.
type walk struct {
	what    string
	c       place.Code
	args    []int
	answers []int
	ticks   int
	want    string
}

func walks(t *testing.T, l []walk) {
	t.Helper()
	for _, c := range l {
		if err := place.Check(c.c); err != nil {
			t.Errorf("%s: %v", c.what, err)
		}
		if s := told(place.Walk(c.c, c.args, c.answers, c.ticks)); s != c.want {
			t.Errorf("%s: of %v with %v and %d ticks: %s, want %s", c.what, c.args, c.answers, c.ticks, s, c.want)
		}
	}
}

// P92: Ins by Ins.
func TestWalk(t *testing.T) {
	straight := of(2, 4, returns(1, ins("param", 0, "", 1), ins("param", 1, "", 0), ins("two", 2, "-", 0, 1, 0), ins("one", 3, "!", 0, 2), ins("print", 0, "", 0, 2), ins("print", 0, "", 0, 3), ins("tick", 0, "", 0)))
	branch := of(1, 2, branches(0, 2, 1, ins("param", 0, "", 0)), returns(0), returns(1, ins("const", 1, "", 5)))
	calls := of(1, 5, returns(4, ins("param", 0, "", 0), ins("call", 1, "h", 0, 0), ins("call", 2, "k", 0), ins("call", 3, "h", 0, 2, 1, 0), ins("two", 4, "-", 0, 3, 1)))
	walks(t, []walk{
		{"straight", straight, []int{7, 3}, nil, 1, "done 7 1 [4 0] []"},
		{"straight", straight, []int{3, 3}, []int{9}, 5, "done 3 1 [0 1] []"},
		{"straight", straight, []int{7, 3}, nil, 0, "over 0 0 [4 0] []"},
		{"straight", straight, []int{7, 3}, nil, -1, "over 0 0 [4 0] []"},
		{"straight", straight, []int{7, 3}, nil, math.MinInt, "over 0 0 [4 0] []"},
		{"straight", straight, []int{7, 3}, nil, math.MaxInt, "done 7 1 [4 0] []"},
		{"too few args", straight, []int{7}, nil, 1, "stuck 0 0 [] []"},
		{"too many args", straight, []int{7, 8, 9}, nil, 1, "stuck 0 0 [] []"},
		{"no args", branch, nil, nil, 1, "stuck 0 0 [] []"},
		{"yes", branch, []int{1}, nil, 0, "done 5 0 [] []"},
		{"yes", branch, []int{math.MinInt}, nil, 0, "done 5 0 [] []"},
		{"no", branch, []int{0}, nil, 0, "done 0 0 [] []"},
		{"calls", calls, []int{4}, []int{10, 20, 30}, 0, "done 20 0 [] [{h [4]} {k []} {h [20 10 4]}]"},
		{"calls", calls, []int{4}, []int{10, 20, 30, 40}, 0, "done 20 0 [] [{h [4]} {k []} {h [20 10 4]}]"},
		{"calls", calls, []int{4}, []int{10, 20}, 0, "over 0 0 [] [{h [4]} {k []}]"},
		{"calls", calls, []int{4}, []int{10}, 0, "over 0 0 [] [{h [4]}]"},
		{"calls", calls, []int{4}, nil, 9, "over 0 0 [] []"},
		{"nobody", of(0, 1, returns(0, ins("call", 0, "", 0))), nil, []int{6}, 0, "done 6 0 [] [{ []}]"},
	})
}

// P92: every op, as val has it.
func TestWalkOps(t *testing.T) {
	for _, a := range []int{0, 1, -1, 7, -7, 64, math.MaxInt, math.MinInt} {
		for _, op := range []string{"-", "!"} {
			want, _ := val.One(op, a)
			walks(t, []walk{{op, of(1, 2, returns(1, ins("param", 0, "", 0), ins("one", 1, op, 0, 0))), []int{a}, nil, 0, fmt.Sprintf("done %d 0 [] []", want)}})
		}
		for _, b := range []int{0, 1, -1, 3, 65, math.MinInt} {
			for _, op := range val.Ops() {
				want, _ := val.Do(op, a, b)
				walks(t, []walk{{op, of(1, 3, returns(2, ins("param", 0, "", 0), ins("const", 1, "", b), ins("two", 2, op, 0, 0, 1))), []int{a}, nil, 0, fmt.Sprintf("done %d 0 [] []", want)}})
			}
		}
	}
}

// P92: Params become what With has, at once; what is made again has what it got last.
func TestWalkParams(t *testing.T) {
	swap := of(2, 4, jumps(1, []int{0, 1}, ins("param", 0, "", 0), ins("param", 1, "", 1)), place.Block{Params: []int{2, 3}, Ins: []place.Ins{ins("print", 0, "", 0, 2), ins("tick", 0, "", 0)}, End: "jump", To: []int{1}, With: [][]int{{3, 2}}})
	turn := of(0, 6, jumps(1, []int{0, 1, 2}, ins("const", 0, "", 1), ins("const", 1, "", 2), ins("const", 2, "", 3)), place.Block{Params: []int{3, 4, 5}, Ins: []place.Ins{ins("print", 0, "", 0, 3), ins("tick", 0, "", 0)}, End: "jump", To: []int{1}, With: [][]int{{4, 5, 3}}})
	// each arm with its own values, to one block; behind it what it had there, and what was made in the turn ahead
	arms := of(1, 4, place.Block{Ins: []place.Ins{ins("param", 0, "", 0), ins("const", 1, "", 50)}, End: "if", V: 0, To: []int{1, 1}, With: [][]int{{0, 1}, {1, 0}}}, place.Block{Params: []int{2, 3}, Ins: []place.Ins{ins("print", 0, "", 0, 2), ins("print", 0, "", 0, 3)}, End: "return", V: 2})
	last := of(0, 6,
		jumps(1, []int{0, 0}, ins("const", 0, "", 3), ins("const", 1, "", 1)),
		place.Block{Params: []int{2, 3}, Ins: []place.Ins{ins("two", 4, "-", 0, 2, 1), ins("tick", 0, "", 0)}, End: "if", V: 2, To: []int{2, 3}, With: make([][]int, 2)},
		jumps(1, []int{4, 5}, ins("call", 5, "h", 0, 3, 4)),
		returns(5, ins("print", 0, "", 0, 4), ins("print", 0, "", 0, 3)))
	unmade := of(1, 3, place.Block{Ins: []place.Ins{ins("param", 0, "", 0)}, End: "if", V: 0, To: []int{1, 1}, With: [][]int{{0}, {1}}}, place.Block{Params: []int{2}, Ins: []place.Ins{ins("tick", 0, "", 0)}, End: "return", V: 2})
	walks(t, []walk{
		{"change over", swap, []int{1, 2}, nil, 4, "over 0 4 [1 2 1 2 1] []"},
		{"turn", turn, nil, nil, 4, "over 0 4 [1 2 3 1 2] []"},
		{"by yes", arms, []int{4}, nil, 0, "done 4 0 [4 50] []"},
		{"by no", arms, []int{0}, nil, 0, "done 50 0 [50 0] []"},
		{"last", last, nil, []int{7, 8, 9}, 9, "done 9 4 [-1 9] [{h [3 2]} {h [7 1]} {h [8 0]}]"},
		{"last, over in a call", last, nil, []int{7, 8}, 9, "over 0 3 [] [{h [3 2]} {h [7 1]}]"},
		{"last, over in a tick", last, nil, []int{7, 8, 9}, 3, "over 0 3 [] [{h [3 2]} {h [7 1]} {h [8 0]}]"},
		{"With of the arm that is not taken is not asked for", unmade, []int{5}, nil, 3, "done 5 1 [] []"},
		{"With of the arm that is taken", unmade, []int{0}, nil, 3, "stuck 0 0 [] []"},
	})
}

// P92: a value that was not made yet: nothing of who asks is done.
func TestWalkStuck(t *testing.T) {
	c := func(end place.Block, l ...place.Ins) place.Code {
		end.Ins = slices.Concat([]place.Ins{ins("const", 0, "", 4), ins("tick", 0, "", 0), ins("print", 0, "", 0, 0)}, l, []place.Ins{ins("print", 0, "", 0, 0)})
		return of(0, 6, end, place.Block{Params: []int{2, 3}, Ins: []place.Ins{ins("const", 1, "", 5)}, End: "return", V: 0})
	}
	plain := returns(0)
	walks(t, []walk{
		{"well", c(plain), nil, nil, 9, "done 4 1 [4 4] []"},
		{"print", c(plain, ins("print", 0, "", 0, 1)), nil, nil, 9, "stuck 0 1 [4] []"},
		{"one", c(plain, ins("one", 4, "-", 0, 1)), nil, nil, 9, "stuck 0 1 [4] []"},
		{"itself", c(plain, ins("one", 4, "-", 0, 4)), nil, nil, 9, "stuck 0 1 [4] []"},
		{"two", c(plain, ins("two", 4, "-", 0, 0, 1)), nil, nil, 9, "stuck 0 1 [4] []"},
		{"call", c(plain, ins("call", 4, "h", 0, 0, 1)), nil, []int{1}, 9, "stuck 0 1 [4] []"},
		{"call without an answer", c(plain, ins("call", 4, "h", 0, 0, 1)), nil, nil, 9, "stuck 0 1 [4] []"},
		{"return", c(returns(1)), nil, nil, 9, "stuck 0 1 [4 4] []"},
		{"if", c(branches(1, 0, 0)), nil, nil, 9, "stuck 0 1 [4 4] []"},
		{"jump", c(jumps(1, []int{0, 1})), nil, nil, 9, "stuck 0 1 [4 4] []"},
		{"jump by itself", c(jumps(1, []int{2, 3})), nil, nil, 9, "stuck 0 1 [4 4] []"},
		{"jump with all", c(jumps(1, []int{0, 0})), nil, nil, 9, "done 4 1 [4 4] []"},
		{"nothing", of(0, 1, returns(0)), nil, nil, 9, "stuck 0 0 [] []"},
	})
	full := of(0, 2, jumps(1, nil, ins("const", 0, "", 7)), jumps(1, nil, ins("print", 0, "", 0, 0)))
	full.Blocks = append(full.Blocks, full.Blocks[1])
	walks(t, []walk{{"to the last print", full, nil, nil, 0, fmt.Sprint("over 0 0 ", api.MaxOut, " numbers to 7 []")}})
}

// P92: prints to the last one that there may be; a value is asked for ahead of that.
func TestWalkLoud(t *testing.T) {
	prints := slices.Repeat([]place.Ins{ins("print", 0, "", 0, 0)}, api.MaxOut)
	all := slices.Concat([]place.Ins{ins("const", 0, "", 7)}, prints)
	seven := fmt.Sprint(api.MaxOut, " numbers to 7 []")
	walks(t, []walk{
		{"all", of(0, 2, returns(0, all...)), nil, nil, 0, "done 7 0 " + seven},
		{"one more", of(0, 2, returns(0, append(slices.Clone(all), ins("print", 0, "", 0, 0))...)), nil, nil, 0, "over 0 0 " + seven},
		{"one more that was not made", of(0, 2, returns(0, append(slices.Clone(all), ins("print", 0, "", 0, 1))...)), nil, nil, 0, "stuck 0 0 " + seven},
	})
}

// P92: after 100000 blocks.
func TestWalkMost(t *testing.T) {
	tick := ins("tick", 0, "", 0)
	// turns: blocks 1 and 2 in each turn, at last 1 and 3: 1 and 2 times so many and 2
	turns := func(end place.Block) place.Code {
		return of(1, 4, jumps(1, []int{0}, ins("param", 0, "", 0), ins("const", 1, "", 1)), place.Block{Params: []int{2}, Ins: []place.Ins{tick}, End: "if", V: 2, To: []int{2, 3}, With: make([][]int, 2)}, jumps(1, []int{3}, ins("two", 3, "-", 0, 2, 1)), end, returns(1))
	}
	walks(t, []walk{
		{"nothing", of(0, 0, jumps(0, nil)), nil, nil, 0, "stuck 0 0 [] []"},
		{"ticks", of(0, 0, jumps(0, nil, tick)), nil, nil, math.MaxInt, "stuck 0 100000 [] []"},
		{"ticks", of(0, 0, jumps(0, nil, tick)), nil, nil, 100000, "stuck 0 100000 [] []"},
		{"ticks", of(0, 0, jumps(0, nil, tick)), nil, nil, 99999, "over 0 99999 [] []"},
		{"two ticks", of(0, 0, jumps(0, nil, tick, tick)), nil, nil, math.MaxInt, "stuck 0 200000 [] []"},
		{"two blocks", of(0, 0, jumps(1, nil, tick), jumps(0, nil)), nil, nil, math.MaxInt, "stuck 0 50000 [] []"},
		{"the last but one", turns(returns(1)), []int{49998}, nil, math.MaxInt, "done 1 49999 [] []"},
		{"one more", turns(returns(1)), []int{49999}, nil, math.MaxInt, "stuck 0 50000 [] []"},
		{"just as many", turns(jumps(4, nil, tick)), []int{49998}, nil, math.MaxInt, "done 1 50000 [] []"},
		{"one more, at the end", turns(jumps(4, nil, tick)), []int{49999}, nil, math.MaxInt, "stuck 0 50000 [] []"},
	})
	d := place.Walk(of(0, 1, jumps(0, nil, ins("call", 0, "h", 0))), nil, make([]int, 100001), 0)
	if d.How != "stuck" || len(d.Calls) != 100000 {
		t.Error(d.How, len(d.Calls))
	}
}

// P92: what is not well is stuck with nothing.
func TestWalkNotWell(t *testing.T) {
	for block := range 4 {
		for i, f := range faults(block, 10) {
			if s := told(place.Walk(changed(f.make), []int{1, 2}, []int{1}, 9)); s != "stuck 0 0 [] []" {
				t.Error(block, i, f.what, s)
			}
		}
	}
	for i, c := range []place.Code{{}, of(5, 1, returns(0)), of(-1, 1, returns(0)), of(0, -1), of(0, 1, make([]place.Block, 1001)...)} {
		if s := told(place.Walk(c, make([]int, max(0, c.Params)), nil, 9)); s != "stuck 0 0 [] []" {
			t.Error(i, s)
		}
	}
	if s := told(place.Walk(four(), []int{1, 0}, []int{1}, 9)); s != "done 5 1 [5] []" {
		t.Error(s)
	}
}

// stuck is what a walk by hand panics with.
type stuck struct{}

// walkedBy: a walk by another way: a map of what was made, and a panic where something was not; at most so many blocks. How is empty behind them.
func walkedBy(c place.Code, args, answers []int, ticks, most int) (d graph.Done) {
	made := map[int]int{}
	get := func(l []int) []int {
		list := []int{}
		for _, v := range l {
			x, ok := made[v]
			if !ok {
				panic(stuck{})
			}
			list = append(list, x)
		}
		return list
	}
	defer func() {
		if x := recover(); x == (stuck{}) {
			d.How = "stuck"
		} else if x != nil {
			panic(x)
		}
	}()
	at := 0
	for range most {
		b := c.Blocks[at]
		for _, x := range b.Ins {
			in := get(x.Args)
			switch {
			case x.Kind == "tick" && d.Ticks+1 > ticks, x.Kind == "print" && len(d.Out)+1 > api.MaxOut, x.Kind == "call" && len(d.Calls)+1 > len(answers):
				d.How = "over"
				return d
			case x.Kind == "tick":
				d.Ticks++
			case x.Kind == "print":
				d.Out = append(d.Out, in[0])
			case x.Kind == "call":
				made[x.D] = answers[len(d.Calls)]
				d.Calls = append(d.Calls, graph.Call{Name: x.Name, Args: in})
			case x.Kind == "param":
				made[x.D] = args[x.Num]
			case x.Kind == "const":
				made[x.D] = x.Num
			case x.Kind == "one":
				made[x.D], _ = val.One(x.Name, in[0])
			case x.Kind == "two":
				made[x.D], _ = val.Do(x.Name, in[0], in[1])
			}
		}
		if b.End == "return" {
			d.Value = get([]int{b.V})[0]
			d.How = "done"
			return d
		}
		k := 0
		if b.End == "if" && get([]int{b.V})[0] == 0 {
			k = 1
		}
		at = b.To[k]
		for i, x := range get(b.With[k]) {
			made[c.Blocks[at].Params[i]] = x
		}
	}
	return d
}

// coder of codes by chance, that are well.
type coder struct {
	*rand.Rand
	place.Code
	made int // values that Ins and Params became
}

// become one value more.
func (m *coder) become() int {
	m.made++
	return m.made - 1
}

// values to ask for: mostly those of block 0, which are made at once, for with any of them most walks are stuck.
func (m *coder) values(many int) []int {
	l := make([]int, many)
	for i := range l {
		l[i] = m.Intn(3)
		if m.Intn(4) == 0 {
			l[i] = m.Intn(m.made + 1)
		}
	}
	return l
}

func (m *coder) ins() place.Ins {
	ops := val.Ops()
	switch m.Intn(7) {
	case 0:
		return ins("const", m.become(), "", m.Intn(5)-2)
	case 1:
		return ins("param", m.become(), "", m.Intn(m.Params))
	case 2:
		return ins("one", m.become(), []string{"-", "!"}[m.Intn(2)], 0, m.values(1)...)
	case 3:
		return ins("two", m.become(), ops[m.Intn(len(ops))], 0, m.values(2)...)
	case 4:
		return ins("call", m.become(), []string{"h", "k"}[m.Intn(2)], 0, m.values(m.Intn(4))...)
	case 5:
		return ins("print", 0, "", 0, m.values(1)...)
	}
	return ins("tick", 0, "", 0)
}

func (m *coder) code() place.Code {
	m.Code, m.made = of(1+m.Intn(3), 80+m.Intn(10), make([]place.Block, 1+m.Intn(8))...), 0
	for i := range m.Blocks {
		b := &m.Blocks[i]
		if i == 0 {
			b.Ins = []place.Ins{ins("param", m.become(), "", 0), ins("const", m.become(), "", 1), ins("param", m.become(), "", m.Params-1)}
		} else {
			for range m.Intn(3) {
				b.Params = append(b.Params, m.become())
			}
		}
		for range m.Intn(6) {
			b.Ins = append(b.Ins, m.ins())
		}
	}
	for i := range m.Blocks {
		b := &m.Blocks[i]
		many := []int{0, 1, 1, 2, 2, 2}[m.Intn(6)]
		b.End = []string{"return", "jump", "if"}[many]
		if many != 1 {
			b.V = m.values(1)[0]
		}
		for k := range many {
			b.To = append(b.To, m.Intn(len(m.Blocks)))
			b.With = append(b.With, m.values(len(m.Blocks[b.To[k]].Params)))
		}
	}
	return m.Code
}

func (m *coder) numbers(many int) []int {
	l := make([]int, many)
	for i := range l {
		l[i] = m.Intn(6) - 2
	}
	return l
}

// P92, P91: codes by chance.
func TestWalkByChance(t *testing.T) {
	m := &coder{Rand: rand.New(rand.NewSource(92))}
	seen := map[string]int{}
	for range 20000 {
		c := m.code()
		if err := place.Check(c); err != nil {
			t.Fatalf("%v\n%+v", err, c)
		}
		args, answers, ticks := m.numbers(c.Params), m.numbers(m.Intn(15)), m.Intn(20)
		want := walkedBy(c, args, answers, ticks, 300)
		if want.How == "" {
			seen["endless"]++
			continue
		}
		seen[want.How]++
		if want.Ticks+len(want.Out)+len(want.Calls) > 3 {
			seen["long "+want.How]++
		}
		if d := place.Walk(c, args, answers, ticks); !alike(d, want) {
			t.Fatalf("of %v with %v and %d ticks: %s, want %s\n%+v", args, answers, ticks, told(d), told(want), c)
		}
	}
	for _, how := range []string{"done", "over", "stuck", "long done", "long over", "long stuck"} {
		if seen[how] < 100 {
			t.Errorf("too few that are %s: %v", how, seen)
		}
	}
}

// P2, P3, P4: lists are only read, to their length, and answers are new memory.
func TestWalkMemory(t *testing.T) {
	c := of(2, 4, returns(2, ins("param", 0, "", 0), ins("param", 1, "", 1), ins("call", 2, "h", 0, 0, 1), ins("call", 3, "k", 0, 2), ins("print", 0, "", 0, 1), ins("print", 0, "", 0, 3)))
	args, answers := []int{5, 6, 7}, []int{8, 9, 10}
	want := "done 8 0 [6 9] [{h [5 6]} {k [8]}]"
	d, e := place.Walk(c, args[:2], answers[:2], 0), place.Walk(c, args[:2], answers[:2], 0)
	if told(d) != want || told(e) != want {
		t.Error(told(d), told(e))
	}
	if told(place.Walk(c, args[:2], answers[:1], 0)) != "over 0 0 [] [{h [5 6]}]" || told(place.Walk(c, args[:1], answers, 0)) != "stuck 0 0 [] []" {
		t.Error("behind a list's length")
	}
	d.Out[0], d.Calls[0].Args[0], d.Calls[1].Args[0] = -1, -1, -1
	if !slices.Equal(args, []int{5, 6, 7}) || !slices.Equal(answers, []int{8, 9, 10}) {
		t.Error("what was handed over was changed")
	}
	args[0], answers[0], c.Blocks[0].Ins[2].Name = 0, 0, "x"
	if told(e) != want {
		t.Error(told(e))
	}
	x := four()
	place.Walk(x, []int{3, 4}, []int{1, 2, 3}, 9)
	if !reflect.DeepEqual(x, four()) {
		t.Error("it was changed")
	}
}
