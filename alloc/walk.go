package alloc

import (
	"kelpforest/api"
	"kelpforest/graph"
)

// Walk a code.
func Walk(c Code, args, answers []int, ticks int) graph.Done {
	if Check(c) != nil || len(args) != c.Params {
		return graph.Done{How: "stuck"}
	}
	w := &walker{Record: graph.NewRecord(answers, ticks), args: args, slots: make([]int, c.Slots)}
	at := 0
	for w.Step() {
		at = w.block(c.Blocks[at])
	}
	return w.Done
}

// walker: a walk on its way.
type walker struct {
	*graph.Record
	args  []int
	regs  [api.Regs]int
	slots []int
	next  [api.MaxParams]int // what the next call gets
}

// block by block: it answers the next one (if the walk stops there: any).
func (w *walker) block(b Block) int {
	for _, x := range b.Ins {
		w.do(x)
		if w.How != "" {
			return 0
		}
	}
	switch {
	case b.End == "return":
		w.Return(w.regs[b.A])
		return 0
	case b.End == "if" && w.regs[b.A] == 0:
		return b.To[1]
	}
	return b.To[0]
}

func (w *walker) do(x Low) {
	switch x.Kind {
	case "param":
		w.regs[x.D] = w.args[x.Num]
	case "const":
		w.regs[x.D] = x.Num
	case "one":
		w.regs[x.D], _ = graph.Reckon(x.Kind, x.Name, []int{w.regs[x.A]})
	case "two":
		w.regs[x.D], _ = graph.Reckon(x.Kind, x.Name, []int{w.regs[x.A], w.regs[x.B]})
	case "move":
		w.regs[x.D] = w.regs[x.A]
	case "load":
		w.regs[x.D] = w.slots[x.Num]
	case "store":
		w.slots[x.Num] = w.regs[x.A]
	case "arg":
		w.next[x.Num] = w.regs[x.A]
	case "call":
		w.regs[x.D] = w.Call(x.Name, w.next[:x.Num])
		w.next = [api.MaxParams]int{}
	case "tick":
		w.Tick()
	case "print":
		w.Print(w.regs[x.A])
	}
}
