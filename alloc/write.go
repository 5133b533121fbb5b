package alloc

import "kelpforest/place"

// entry to a block: by an arm of an if that passes values, or (from below 0) by all that need not pass any more.
type entry struct {
	to, from, arm int
}

// writer of blocks. A block that an if passes values to is written for that arm by itself, with the moves ahead: were they a block of their own, a walk would come to its last block sooner.
type writer struct {
	*flow
	spots         map[int]spot
	first, second int // the registers at hand
	entries       []entry
	numbers       map[entry]int // of the blocks that are made of entries
	ins           []Low         // of the block that is being written
}

// blocks of all entries to which the first one leads.
func (w *writer) blocks() []Block {
	w.number(entry{to: 0, from: -1})
	var list []Block
	for len(list) < len(w.entries) {
		list = append(list, w.block(w.entries[len(list)]))
	}
	return list
}

// number of the block of an entry.
func (w *writer) number(e entry) int {
	n, known := w.numbers[e]
	if !known {
		n = len(w.entries)
		w.numbers[e] = n
		w.entries = append(w.entries, e)
	}
	return n
}

func (w *writer) block(e entry) Block {
	w.ins = nil
	if e.from >= 0 {
		w.moveAll(w.moves(e.from, e.arm))
	}
	for _, x := range w.Blocks[e.to].Ins {
		if w.stays(x) {
			w.write(x)
		}
	}
	b := w.leave(e.to)
	b.Ins = w.ins
	return b
}

func (w *writer) add(x Low) {
	w.ins = append(w.ins, x)
}

func (w *writer) write(x place.Ins) {
	low := Low{Kind: x.Kind, Num: x.Num, Name: x.Name}
	switch x.Kind {
	case "tick":
		w.add(low)
	case "print":
		low.A = w.take(x.Args[0], w.first)
		w.add(low)
	case "call":
		for i, v := range x.Args {
			w.add(Low{Kind: "arg", Num: i, A: w.take(v, w.first)})
		}
		low.Num = len(x.Args)
		w.become(x.D, low)
	case "one":
		low.A = w.take(x.Args[0], w.first)
		w.become(x.D, low)
	case "two":
		low.A, low.B = w.take(x.Args[0], w.first), w.take(x.Args[1], w.second)
		w.become(x.D, low)
	default:
		w.become(x.D, low)
	}
}

// take a value: it answers the register in which it lies, or into which it was loaded.
func (w *writer) take(v, hand int) int {
	s := w.spots[v]
	if s.isSlot() {
		w.add(Low{Kind: "load", D: hand, Num: s.slot()})
		return hand
	}
	return int(s)
}

// become a value. What nobody needs lies nowhere.
func (w *writer) become(v int, x Low) {
	s, lies := w.spots[v]
	if lies && !s.isSlot() {
		x.D = int(s)
		w.add(x)
		return
	}
	x.D = w.first
	w.add(x)
	if lies {
		w.add(Low{Kind: "store", Num: s.slot(), A: w.first})
	}
}

// leave a block for those behind it.
func (w *writer) leave(at int) Block {
	from := w.Blocks[at]
	b := Block{End: from.End}
	switch from.End {
	case "jump":
		w.moveAll(w.moves(at, 0))
		b.To = []int{w.number(entry{to: from.To[0], from: -1})}
	case "if":
		b.A = w.take(from.V, w.first)
		for arm, to := range from.To {
			e := entry{to, at, arm}
			if len(w.moves(at, arm)) == 0 {
				e = entry{to: to, from: -1}
			}
			b.To = append(b.To, w.number(e))
		}
	case "return":
		b.A = w.take(from.V, w.first)
	}
	return b
}
