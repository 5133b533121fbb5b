package place

import "kelpforest/graph"

// Walk a code.
func Walk(c Code, args, answers []int, ticks int) graph.Done {
	if Check(c) != nil || len(args) != c.Params {
		return graph.Done{How: "stuck"}
	}
	w := &walker{Record: graph.NewRecord(answers, ticks), blocks: c.Blocks, args: args, values: make([]value, c.Values)}
	at := 0
	for w.Step() {
		at = w.block(c.Blocks[at])
	}
	return w.Done
}

// value of a walk: what it got last, if it was made.
type value struct {
	number int
	made   bool
}

// walker: a walk on its way.
type walker struct {
	*graph.Record
	blocks []Block
	args   []int
	values []value
	asked  []int // what was asked for last: its memory is taken again, for much is asked
}

// block by block: it answers the next one (if the walk stops there: any).
func (w *walker) block(b Block) int {
	for _, x := range b.Ins {
		w.do(x)
		if w.How != "" {
			return 0
		}
	}
	return w.leave(b)
}

// ask for values; false: one of them was not made, and the walk stops.
func (w *walker) ask(list ...int) ([]int, bool) {
	w.asked = w.asked[:0]
	for _, v := range list {
		if !w.values[v].made {
			w.Stop("stuck")
			return nil, false
		}
		w.asked = append(w.asked, w.values[v].number)
	}
	return w.asked, true
}

func (w *walker) become(v, number int) {
	w.values[v] = value{number, true}
}

func (w *walker) do(x Ins) {
	asked, ok := w.ask(x.Args...)
	if !ok {
		return
	}
	switch x.Kind {
	case "param":
		w.become(x.D, w.args[x.Num])
	case "const":
		w.become(x.D, x.Num)
	case "one", "two":
		number, _ := graph.Reckon(x.Kind, x.Name, asked)
		w.become(x.D, number)
	case "tick":
		w.Tick()
	case "print":
		w.Print(asked[0])
	case "call":
		w.become(x.D, w.Call(x.Name, asked))
	}
}

// leave a block: it answers the next one.
func (w *walker) leave(b Block) int {
	switch b.End {
	case "return":
		if asked, ok := w.ask(b.V); ok {
			w.Return(asked[0])
		}
	case "if":
		asked, ok := w.ask(b.V)
		if !ok {
			return 0
		}
		if asked[0] != 0 {
			return w.enter(b.To[0], b.With[0])
		}
		return w.enter(b.To[1], b.With[1])
	case "jump":
		return w.enter(b.To[0], b.With[0])
	}
	return 0
}

// enter a block: all values are asked for ahead of its Params, which may be among them.
func (w *walker) enter(to int, with []int) int {
	asked, ok := w.ask(with...)
	if !ok {
		return 0
	}
	for i, p := range w.blocks[to].Params {
		w.become(p, asked[i])
	}
	return to
}
