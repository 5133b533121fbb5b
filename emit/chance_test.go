package emit_test

import (
	"math/rand"
	"reflect"
	"slices"
	"testing"

	"kelpforest/alloc"
	"kelpforest/api"
	"kelpforest/emit"
	"kelpforest/val"
)

// maker of codes by chance.
type maker struct {
	*rand.Rand
}

// number of any size.
func (m maker) number() int {
	if m.Intn(3) > 0 {
		return m.Intn(7) - 3
	}
	return int(m.Uint64()) >> m.Intn(64)
}

func (m maker) numbers(many int) []int {
	l := make([]int, many)
	for i := range l {
		l[i] = m.Intn(6) - 2
	}
	return l
}

// low: an Ins of a code among others. Calls go mostly to those behind it, so that many come to an end.
func (m maker) low(c alloc.Code, l []alloc.Code) alloc.Low {
	d, a, b := m.Intn(api.Regs), m.Intn(api.Regs), m.Intn(api.Regs)
	switch k := m.Intn(12); {
	case k == 0 && c.Params > 0:
		return param(d, m.Intn(c.Params))
	case k == 1 && c.Slots > 0:
		return loads(d, m.Intn(c.Slots))
	case k == 2 && c.Slots > 0:
		return stores(m.Intn(c.Slots), a)
	case k < 4:
		return number(d, m.number())
	case k == 4:
		return one([]string{"-", "!"}[m.Intn(2)], d, a)
	case k < 7:
		return two(val.Ops()[m.Intn(len(val.Ops()))], d, a, b)
	case k == 7:
		return moves(d, a)
	case k < 10:
		return arg(m.Intn(api.MaxParams), a)
	case k == 10:
		return prints(a)
	}
	to := l[m.Intn(len(l))]
	if to.Name <= c.Name && m.Intn(8) > 0 {
		return ticks()
	}
	return calls(to.Name, d, to.Params)
}

// to which block one of so many goes: mostly to one behind it.
func (m maker) to(from, many int) int {
	switch m.Intn(5) {
	case 0:
		return m.Intn(many)
	case 1:
		return from + m.Intn(many-from)
	}
	return min(from+1, many-1)
}

// fill a code with blocks. What goes back to a block ahead has a tick, so that it comes to an end.
func (m maker) fill(c *alloc.Code, l []alloc.Code) {
	c.Blocks = make([]alloc.Block, 1+m.Intn(7))
	for i := range c.Blocks {
		b := &c.Blocks[i]
		for range m.Intn(12) {
			b.Ins = append(b.Ins, m.low(*c, l))
		}
		many := []int{0, 1, 1, 2, 2}[m.Intn(5)]
		if i == len(c.Blocks)-1 && m.Intn(4) > 0 {
			many = 0
		}
		b.End = []string{"return", "jump", "if"}[many]
		if many != 1 {
			b.A = m.Intn(api.Regs)
		}
		for range many {
			b.To = append(b.To, m.to(i, len(c.Blocks)))
		}
		if slices.ContainsFunc(b.To, func(to int) bool { return to <= i }) {
			b.Ins = append(b.Ins, ticks())
		}
	}
}

// codes that are well, and call each other.
func (m maker) codes() []alloc.Code {
	l := make([]alloc.Code, 1+m.Intn(4))
	for i := range l {
		l[i] = alloc.Code{Name: []string{"f", "g", "h", "main"}[i], Params: m.Intn(api.MaxParams + 1), Slots: m.Intn(4)}
	}
	for i := range l {
		m.fill(&l[i], l)
	}
	return l
}

// enough: are there enough of each kind that a test asks for?
func enough(t *testing.T, seen map[string]int, least int, kinds ...string) {
	t.Helper()
	for _, kind := range kinds {
		if seen[kind] < least {
			t.Errorf("too few that are %s: %v", kind, seen)
		}
	}
}

// P121, P123: codes by chance, each by itself and all together.
func TestEmitByChance(t *testing.T) {
	m := maker{rand.New(rand.NewSource(121))}
	seen := map[string]int{}
	for range 6000 {
		l := m.codes()
		image := emitted(t, l...)
		for k, c := range l {
			d := alone(t, image, l, k, m.numbers(c.Params), m.numbers(m.Intn(15)), m.Intn(20))
			seen[d.How]++
			if d.Ticks+len(d.Out)+len(d.Calls) > 5 {
				seen["long "+d.How]++
			}
			o := together(t, image, l, k, m.numbers(c.Params), m.Intn(60))
			seen["all "+o.How]++
			if o.Ticks+len(o.Out) > 8 {
				seen["all long "+o.How]++
			}
		}
	}
	enough(t, seen, 100, "done", "over", "long done", "long over", "all done", "all tired", "all deep", "all long done", "all long tired")
}

// spoil codes: one thing is another by chance.
func (m maker) spoil(l []alloc.Code) {
	c := &l[m.Intn(len(l))]
	b := &c.Blocks[m.Intn(len(c.Blocks))]
	x := &alloc.Low{}
	if len(b.Ins) > 0 {
		x = &b.Ins[m.Intn(len(b.Ins))]
	}
	switch m.Intn(10) {
	case 0:
		x.Kind = []string{"tick", "call", "const", "one", "two", "param", "if"}[m.Intn(7)]
	case 1:
		x.D = m.Intn(11) - 1
	case 2:
		x.Num = m.Intn(7) - 1
	case 3, 4:
		x.Name = []string{"", "+", "!", "main", "nobody"}[m.Intn(5)]
	case 5:
		b.End = []string{"return", "jump", "if", "tick"}[m.Intn(4)]
	case 6:
		b.To = append(slices.Clone(b.To), m.Intn(len(c.Blocks)+2)-1)[m.Intn(2):]
	case 7:
		c.Name = []string{"", "f", "g", "other"}[m.Intn(4)]
	case 8:
		c.Params = m.Intn(8) - 2
	case 9:
		c.Slots = m.Intn(5) - 1
	}
}

// wrong: the error that P121 has for few and short codes.
func wrong(l []alloc.Code) error {
	params := map[string]int{}
	for i, c := range l {
		_, twice := params[c.Name]
		switch err := alloc.Check(c); {
		case err != nil:
			return at(i, err)
		case twice:
			return at(i, api.ErrExist)
		case c.Name == "":
			return at(i, api.ErrName)
		}
		params[c.Name] = c.Params
	}
	for i, c := range l {
		none, args := false, false
		for _, b := range c.Blocks {
			for _, x := range b.Ins {
				many, known := params[x.Name]
				none = none || x.Kind == "call" && !known
				args = args || x.Kind == "call" && many != x.Num
			}
		}
		if none {
			return at(i, api.ErrNone)
		}
		if args {
			return at(i, api.ErrArgs)
		}
	}
	return nil
}

// P1, P121: codes that may be well or not.
func TestEmitBroken(t *testing.T) {
	m := maker{rand.New(rand.NewSource(122))}
	seen := map[string]int{}
	for range 20000 {
		l := m.codes()
		for range 1 + m.Intn(2) {
			m.spoil(l)
		}
		want := wrong(l)
		if want == nil {
			seen["well"]++
			emitted(t, l...)
			continue
		}
		seen[want.Error()]++
		image, err := emit.Emit(l)
		if !reflect.DeepEqual(err, want) || !reflect.DeepEqual(image, emit.Image{}) {
			t.Fatalf("%v, want %v\n%+v", err, want, l)
		}
	}
	for _, err := range []error{api.ErrBound, api.ErrShape, api.ErrKind, api.ErrName, api.ErrNone, api.ErrExist, api.ErrArgs} {
		enough(t, seen, 100, err.Error())
	}
	enough(t, seen, 100, "well")
}

// P1, P120, P122: images by chance, mostly none.
func TestImagesByChance(t *testing.T) {
	m := maker{rand.New(rand.NewSource(123))}
	seen := map[string]int{}
	for range 50000 {
		image := emit.Image{Words: make([]uint64, m.Intn(5))}
		for i := range image.Words {
			image.Words[i] = m.Uint64() & 0x1f07070700000007 & (m.Uint64() | 0xff00000000000000)
			if m.Intn(3) > 0 {
				image.Words[i] &= 0xff0f000000000003
			}
		}
		for range m.Intn(3) {
			image.Funs = append(image.Funs, emit.Fun{Name: []string{"f", "g", "h"}[m.Intn(3)], Params: m.Intn(6) - m.Intn(2), Slots: m.Intn(3), Entry: m.Intn(4)})
		}
		err := emit.Check(image)
		list := emit.List(image)
		if len(list) != len(image.Words) || err == nil && slices.Contains(list, "") {
			t.Fatal(list, image, err)
		}
		if err == nil {
			seen["well"]++
			continue
		}
		seen[err.Error()]++
	}
	for _, err := range []error{api.ErrBound, api.ErrShape, api.ErrKind, api.ErrName, api.ErrArgs} {
		enough(t, seen, 100, err.Error())
	}
	enough(t, seen, 100, "well")
}
