package mach

import (
	"kelpforest/api"
	"kelpforest/val"
)

// frame of one call.
type frame struct {
	*machine
	regs   [api.Regs]int
	args   [api.MaxParams]int
	next   [api.MaxParams]int // of the next call
	params int
	slots  []int
}

// goOn word by word, to what the function answers; false: the run has stopped ahead of it.
func (f *frame) goOn(at int) (int, bool) {
	for at < len(f.words) && f.taken < maxTaken {
		w := &f.words[at]
		f.taken++
		at++
		switch w.Op {
		case "jump":
			at = w.Imm
		case "if":
			if f.regs[w.A] != 0 {
				at = w.Imm
			}
		case "return":
			return f.regs[w.A], true
		default:
			if !f.do(w) {
				return 0, false
			}
		}
	}
	return 0, f.stop("stuck")
}

// do a word behind which the next one comes; false: the run has stopped in it.
func (f *frame) do(w *word) bool {
	switch w.Op {
	case "const":
		f.regs[w.D] = w.Imm
	case "high":
		f.regs[w.D] = f.regs[w.D]<<32 | int(uint32(w.Imm))
	case "move":
		f.regs[w.D] = f.regs[w.A]
	case "load", "store":
		return f.slot(w)
	case "param":
		return f.param(w)
	case "arg":
		f.next[w.Imm] = f.regs[w.A]
	case "call":
		return f.callOther(w)
	case "tick":
		return f.tick()
	case "print":
		return f.print(f.regs[w.A])
	case "neg", "not":
		f.regs[w.D], _ = val.One(w.sign, f.regs[w.A])
	default:
		f.regs[w.D], _ = val.Do(w.sign, f.regs[w.A], f.regs[w.B])
	}
	return true
}

// slot: a load or a store of one.
func (f *frame) slot(w *word) bool {
	switch {
	case w.Imm >= len(f.slots):
		return f.stop("stuck")
	case w.Op == "load":
		f.regs[w.D] = f.slots[w.Imm]
	default:
		f.slots[w.Imm] = f.regs[w.A]
	}
	return true
}

func (f *frame) param(w *word) bool {
	if w.Imm >= f.params {
		return f.stop("stuck")
	}
	f.regs[w.D] = f.args[w.Imm]
	return true
}

// callOther function, or the same one again. What was told for this call is not told for the next one.
func (f *frame) callOther(w *word) bool {
	if w.B != f.funs[w.Imm].Params {
		return f.stop("stuck")
	}
	args := f.next
	f.next = [api.MaxParams]int{}
	value, ok := f.call(w.Imm, args)
	if ok {
		f.regs[w.D] = value
	}
	return ok
}
