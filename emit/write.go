package emit

import (
	"kelpforest/alloc"
	"kelpforest/api"
	"kelpforest/code"
)

// writer of an image.
type writer struct {
	numbers map[string]int // of the functions
	funs    []Fun
	ins     []code.Ins // a word each
}

// image of all that was written.
func (w *writer) image() (Image, error) {
	if len(w.ins) > api.MaxWords {
		return Image{}, api.ErrFull
	}
	m := Image{Funs: w.funs}
	for _, i := range w.ins {
		word, err := code.Encode(i)
		if err != nil {
			return Image{}, err
		}
		m.Words = append(m.Words, word)
	}
	return m, nil
}

func (w *writer) add(i code.Ins) {
	w.ins = append(w.ins, i)
}

// write a code, block behind block, so that it begins with its first word.
func (w *writer) write(c alloc.Code) {
	entry := len(w.ins)
	w.funs = append(w.funs, Fun{Name: c.Name, Params: c.Params, Slots: c.Slots, Entry: entry})
	starts := make([]int, len(c.Blocks))
	for at, b := range c.Blocks {
		starts[at] = len(w.ins)
		for _, x := range b.Ins {
			w.low(x)
		}
		w.leave(at, b)
	}
	settle(w.ins[entry:], starts)
}

// settle whereto it goes on: at words, where till now blocks were told, for where a block begins is known only behind all of them.
func settle(l []code.Ins, starts []int) {
	for k, i := range l {
		if i.Op == "jump" || i.Op == "if" {
			l[k].Imm = starts[i.Imm]
		}
	}
}

// leave a block for those behind it.
func (w *writer) leave(at int, b alloc.Block) {
	switch b.End {
	case "jump":
		w.jump(at, b.To[0])
	case "if":
		w.add(code.Ins{Op: "if", A: b.A, Imm: b.To[0]})
		w.jump(at, b.To[1])
	case "return":
		w.add(code.Ins{Op: "return", A: b.A})
	}
}

// jump to a block, unless it goes on there by itself.
func (w *writer) jump(at, to int) {
	if to != at+1 {
		w.add(code.Ins{Op: "jump", Imm: to})
	}
}

func (w *writer) low(x alloc.Low) {
	switch x.Kind {
	case "const":
		w.number(x.D, x.Num)
	case "call":
		w.add(code.Ins{Op: "call", D: x.D, B: x.Num, Imm: w.numbers[x.Name]})
	default:
		w.add(code.Ins{Op: opOf(x), D: x.D, A: x.A, B: x.B, Imm: x.Num})
	}
}

// number: by its upper half first, if one word has no room for it.
func (w *writer) number(d, number int) {
	lower := int(int32(number))
	if number == lower {
		w.add(code.Ins{Op: "const", D: d, Imm: number})
		return
	}
	w.add(code.Ins{Op: "const", D: d, Imm: number >> 32})
	w.add(code.Ins{Op: "high", D: d, Imm: lower})
}

// opOf an Ins: but where it reckons, the machine's op has the name of its kind.
func opOf(x alloc.Low) string {
	if x.Kind == "one" || x.Kind == "two" {
		return code.Reckons(x.Name, x.Kind == "two")
	}
	return x.Kind
}
