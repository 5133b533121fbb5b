package emit_test

import (
	"testing"

	"kelpforest/alloc"
	"kelpforest/api"
	"kelpforest/code"
	"kelpforest/emit"
	"kelpforest/graph"
	"kelpforest/mach"
	"kelpforest/val"
)

// machine as chapters 11 and 13 have it, word by word, but that its calls are answered from outside, as those of a walk are. How is empty as long as it goes on.
type machine struct {
	emit.Image
	api.Outcome
	most int
	left int                              // words that it may still take
	call func(number int, args []int) int // a function
}

// frame of a call.
type frame struct {
	*machine
	fun   emit.Fun
	args  []int
	has   map[int]int // by registers
	slots map[int]int
	next  map[int]int
}

// stop, but where it has stopped already.
func (m *machine) stop(how string) {
	if m.How == "" {
		m.How = how
	}
}

func (m *machine) tick() {
	if m.Ticks >= m.most {
		m.stop("tired")
		return
	}
	m.Ticks++
}

// enter a function, behind its tick; 0 if it stops there.
func (m *machine) enter(number int, args []int) int {
	f := &frame{machine: m, fun: m.Funs[number], args: args, has: map[int]int{}, slots: map[int]int{}, next: map[int]int{}}
	at := f.fun.Entry
	for m.How == "" {
		if m.left--; m.left < 0 || at >= len(m.Words) {
			m.stop("stuck")
			return 0
		}
		i, err := code.Decode(m.Words[at])
		if err != nil {
			m.stop("no word")
			return 0
		}
		switch {
		case i.Op == "return":
			return f.has[i.A]
		case i.Op == "jump", i.Op == "if" && f.has[i.A] != 0:
			at = i.Imm
		default:
			f.do(i)
			at++
		}
	}
	return 0
}

// signs of the ops that reckon.
func signs() map[string]string {
	return map[string]string{"add": "+", "sub": "-", "mul": "*", "div": "/", "rem": "%", "and": "&", "or": "|", "xor": "^", "shl": "<<", "shr": ">>", "less": "<", "most": "<=", "same": "==", "other": "!="}
}

func (f *frame) do(i code.Ins) {
	switch i.Op {
	case "const":
		f.has[i.D] = i.Imm
	case "high":
		f.has[i.D] = f.has[i.D]*(1<<32) + (i.Imm+1<<32)%(1<<32)
	case "move":
		f.has[i.D] = f.has[i.A]
	case "load", "store":
		f.slot(i)
	case "param":
		if i.Imm >= f.fun.Params {
			f.stop("stuck")
			return
		}
		f.has[i.D] = f.args[i.Imm]
	case "arg":
		f.next[i.Imm] = f.has[i.A]
	case "call":
		f.goes(i)
	case "tick":
		f.tick()
	case "print":
		if len(f.Out) >= api.MaxOut {
			f.stop("loud")
			return
		}
		f.Out = append(f.Out, f.has[i.A])
	case "neg":
		f.has[i.D], _ = val.One("-", f.has[i.A])
	case "not":
		f.has[i.D], _ = val.One("!", f.has[i.A])
	case "if":
	default:
		f.has[i.D], _ = val.Do(signs()[i.Op], f.has[i.A], f.has[i.B])
	}
}

func (f *frame) slot(i code.Ins) {
	switch {
	case i.Imm >= f.fun.Slots:
		f.stop("stuck")
	case i.Op == "load":
		f.has[i.D] = f.slots[i.Imm]
	default:
		f.slots[i.Imm] = f.has[i.A]
	}
}

// goes: a call, with what was told for it since the last one.
func (f *frame) goes(i code.Ins) {
	if i.B != f.Funs[i.Imm].Params {
		f.stop("stuck")
		return
	}
	args := []int{}
	for k := range i.B {
		args = append(args, f.next[k])
	}
	f.next = map[int]int{}
	f.has[i.D] = f.call(i.Imm, args)
}

// enough words for what tests do.
const enoughWords = 3000000

// ranAlone: what a function of an image does by itself, with answers for its calls, as a walk is told.
func ranAlone(m emit.Image, number int, args, answers []int, ticks int) graph.Done {
	r := &machine{Image: m, most: ticks, left: enoughWords}
	var calls []graph.Call
	r.call = func(number int, args []int) int {
		if len(calls) >= len(answers) {
			r.stop("mute")
			return 0
		}
		calls = append(calls, graph.Call{Name: m.Funs[number].Name, Args: args})
		return answers[len(calls)-1]
	}
	value := r.enter(number, args)
	r.stop("done")
	how := map[string]string{"tired": "over", "loud": "over", "mute": "over"}[r.How]
	if how == "" {
		how = r.How
	}
	return graph.Done{How: how, Value: value, Ticks: r.Ticks, Out: r.Out, Calls: calls}
}

// ran: what a function of an image does by mach.Run, calls going to the others.
func ran(t *testing.T, m emit.Image, number int, args []int, ticks int) api.Outcome {
	t.Helper()
	o, err := mach.Run(m, m.Funs[number].Name, args, ticks)
	if err != nil {
		t.Fatalf("%v\n%s", err, text(m))
	}
	return o
}

// walker of codes by alloc.Walk alone, each call answered by a walk of the other.
type walker struct {
	*testing.T
	codes map[string]alloc.Code
	api.Outcome
	most, deep int
}

// walked: what a code does, calls going to the others. How is empty where walks can't tell.
func walked(t *testing.T, l []alloc.Code, number int, args []int, ticks int) api.Outcome {
	w := &walker{T: t, codes: map[string]alloc.Code{}, most: ticks}
	for _, c := range l {
		w.codes[c.Name] = c
	}
	value, ok := w.call(l[number].Name, args)
	if ok {
		w.How, w.Value = "done", value
	}
	return w.Outcome
}

// call a code; false: it has stopped in it. A walk is done again for each of its calls, with the answers to those ahead, and with fewer ticks by those that these took.
func (w *walker) call(name string, args []int) (int, bool) {
	if w.Ticks == w.most {
		w.How = "tired"
		return 0, false
	}
	w.Ticks++
	if w.deep == api.MaxDeep {
		w.How = "deep"
		return 0, false
	}
	w.deep++
	defer func() { w.deep-- }()
	before := w.Ticks
	var answers []int
	own, printed := 0, 0 // ticks and prints of its own till the last call
	for {
		others := w.Ticks - before - own
		d := alloc.Walk(w.codes[name], args, answers, w.most-before-others)
		w.Out = append(w.Out, d.Out[printed:]...)
		w.Ticks += d.Ticks - own
		own, printed = d.Ticks, len(d.Out)
		if d.How != "over" {
			w.How = map[string]string{"stuck": "stuck"}[d.How]
			return d.Value, d.How == "done"
		}
		more := alloc.Walk(w.codes[name], args, append(answers, 0), w.most-before-others)
		if len(more.Calls) == len(answers) {
			w.How = "tired"
			if len(d.Out) == api.MaxOut {
				w.How = "loud"
			}
			return 0, false
		}
		call := more.Calls[len(answers)]
		answer, ok := w.call(call.Name, call.Args)
		if !ok {
			return 0, false
		}
		answers = append(answers, answer)
	}
}
