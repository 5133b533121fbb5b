package alloc_test

import (
	"math/rand"
	"slices"
	"strings"
	"testing"

	"kelpforest/alloc"
	"kelpforest/place"
	"kelpforest/val"
)

// maker of codes of values by chance, that are well.
type maker struct {
	coder
	place.Code
	made   int           // values that Ins and Params became
	surely []map[int]int // of each block, the values that were made on all ways to it; nil: nobody comes to it
}

// become one value more.
func (m *maker) become() int {
	m.made++
	return m.made - 1
}

// shape of the code: its blocks with all but what they ask for.
func (m *maker) shape(blocks, params, many int) {
	m.made = 0
	m.Code = values(1+m.Intn(3), 0, make([]place.Block, blocks)...)
	for i := range m.Blocks {
		b := &m.Blocks[i]
		if i == 0 {
			for range 1 + m.Intn(many) {
				b.Ins = append(b.Ins, ins("const", m.become(), "", m.Intn(9)-3))
			}
		} else {
			for range m.Intn(params) {
				b.Params = append(b.Params, m.become())
			}
		}
		for range m.Intn(many) {
			b.Ins = append(b.Ins, m.ins())
		}
		ways := []int{0, 1, 1, 2, 2, 2, 2}[m.Intn(7)]
		b.End = []string{"return", "jump", "if"}[ways]
		for range ways {
			b.To = append(b.To, m.Intn(blocks))
		}
		// So no loop is without a tick.
		if slices.ContainsFunc(b.To, func(to int) bool { return to <= i }) {
			b.Ins = append(b.Ins, ins("tick", 0, "", 0))
		}
	}
	m.Values = m.made + m.Intn(3)
}

// ins that as yet asks for 0 alone.
func (m *maker) ins() place.Ins {
	ops := val.Ops()
	switch m.Intn(9) {
	case 0:
		return ins("param", m.become(), "", m.Intn(m.Params))
	case 1:
		return ins("one", m.become(), []string{"-", "!"}[m.Intn(2)], 0, 0)
	case 2, 3, 4, 5:
		return ins("two", m.become(), ops[m.Intn(len(ops))], 0, 0, 0)
	case 6:
		return ins("call", m.become(), []string{"h", "k"}[m.Intn(2)], 0, make([]int, m.Intn(5))...)
	}
	return ins("print", 0, "", 0, 0)
}

// makes: what an Ins becomes; below 0: nothing.
func makes(x place.Ins) int {
	if x.Kind == "tick" || x.Kind == "print" {
		return -1
	}
	return x.D
}

// follow all ways till it is known what was made on all of them.
func (m *maker) follow() {
	m.surely = make([]map[int]int, len(m.Blocks))
	m.surely[0] = map[int]int{}
	for changed := true; changed; {
		changed = false
		for i, b := range m.Blocks {
			if m.surely[i] == nil {
				continue
			}
			for _, to := range b.To {
				now := map[int]int{}
				keep := func(v int) {
					if old := m.surely[to]; old == nil || old[v] > 0 {
						now[v]++
					}
				}
				for v := range m.surely[i] {
					keep(v)
				}
				for _, p := range b.Params {
					keep(p)
				}
				for _, x := range b.Ins {
					keep(makes(x))
				}
				if m.surely[to] == nil || len(now) < len(m.surely[to]) {
					m.surely[to] = now
					changed = true
				}
			}
		}
	}
}

// fill in what is asked for: mostly what was surely made, now and then any value.
func (m *maker) fill() {
	for i := range m.Blocks {
		b := &m.Blocks[i]
		there := slices.Clone(b.Params)
		for v := range m.Values {
			if m.surely[i][v] > 0 {
				there = append(there, v)
			}
		}
		ask := func(list []int) {
			for k := range list {
				list[k] = m.Intn(m.Values)
				if len(there) > 0 && m.Intn(60) > 0 {
					list[k] = there[m.Intn(len(there))]
				}
			}
		}
		for _, x := range b.Ins {
			ask(x.Args)
			if v := makes(x); v >= 0 {
				there = append(there, v)
			}
		}
		if b.End != "jump" {
			v := []int{0}
			ask(v)
			// What was made last is mostly another one in each turn.
			if len(there) > 0 && m.Intn(2) == 0 {
				v = there[len(there)-1:]
			}
			b.V = v[0]
		}
		for _, to := range b.To {
			with := make([]int, len(m.Blocks[to].Params))
			ask(with)
			b.With = append(b.With, with)
		}
	}
}

// make a code. With many values or few, the same ones are passed around often.
func (m *maker) make() place.Code {
	m.shape(1+m.Intn(9), 2+m.Intn(14), 2+m.Intn(16))
	m.follow()
	m.fill()
	return m.Code
}

// P103, P104: codes by chance, in any number of registers.
func TestAllocByChance(t *testing.T) {
	m := &maker{coder: coder{Rand: rand.New(rand.NewSource(103))}}
	seen := map[string]int{}
	for range 5000 {
		c := m.make()
		if err := place.Check(c); err != nil {
			t.Fatalf("%v\n%s", err, valueText(c))
		}
		list := allocated(t, c)
		if a := list[len(list)-1]; a.Slots > 0 {
			seen["slots"]++
			if len(a.Blocks) > len(c.Blocks) {
				seen["arms"]++
			}
		}
		for range 3 {
			d := same(t, c, list, m.numbers(c.Params), m.numbers(m.Intn(40)), m.Intn(20))
			seen[d.How]++
			if d.Ticks > 1 && len(d.Out)+len(d.Calls) > 3 {
				seen["long "+d.How]++
			}
		}
	}
	enough(t, seen, 100, "slots", "arms", "done", "over", "stuck", "long done", "long over")
}

// P1, P103: codes that may be well or not.
func TestAllocBroken(t *testing.T) {
	m := &maker{coder: coder{Rand: rand.New(rand.NewSource(104))}}
	seen := map[string]int{}
	for range 20000 {
		c := m.make()
		for range 1 + m.Intn(2) {
			m.spoil(&c)
		}
		want := place.Check(c)
		if want == nil {
			seen["well"]++
			same(t, c, []alloc.Code{allocIn(t, c, 8)}, m.numbers(c.Params), m.numbers(m.Intn(9)), m.Intn(9))
			continue
		}
		seen[strings.TrimPrefix(want.Error(), "kelpforest: ")]++
		a, err := alloc.Alloc(c)
		if err == nil || err.Error() != want.Error() || codeText(a) != codeText(alloc.Code{}) {
			t.Fatalf("%v, want %v\n%s", err, want, valueText(c))
		}
	}
	enough(t, seen, 100, "well", "kind", "bound", "shape", "exist", "args")
}

// spoil a code: one thing of it is another by chance.
func (m *maker) spoil(c *place.Code) {
	b := &c.Blocks[m.Intn(len(c.Blocks))]
	x := &place.Ins{}
	if len(b.Ins) > 0 {
		x = &b.Ins[m.Intn(len(b.Ins))]
	}
	any := m.Intn(c.Values+2) - 1
	switch m.Intn(12) {
	case 0:
		x.Kind = []string{"tick", "print", "const", "one", "two", "param", "what"}[m.Intn(7)]
	case 1:
		x.D = any
	case 2:
		// A call may have only so many, though it would be well with more.
		if x.Kind != "call" {
			x.Args = append(slices.Clone(x.Args), any)[m.Intn(2):]
		}
	case 3:
		x.Num = any
	case 4:
		x.Name = []string{"", "+", "!", "h"}[m.Intn(4)]
	case 5:
		b.End = []string{"return", "jump", "if", "tick"}[m.Intn(4)]
	case 6:
		b.V = any
	case 7:
		b.To = append(slices.Clone(b.To), m.Intn(len(c.Blocks)+2)-1)[m.Intn(2):]
	case 8:
		b.With = append(slices.Clone(b.With), []int{any})[m.Intn(2):]
	case 9:
		b.Params = append(slices.Clone(b.Params), any)[m.Intn(2):]
	case 10:
		c.Params = m.Intn(8) - 2
	case 11:
		c.Values += m.Intn(3) - 1
	}
}
