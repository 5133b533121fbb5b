package mach_test

import (
	"strconv"
	"strings"

	"kelpforest/api"
	"kelpforest/emit"
	"kelpforest/val"
)

// event of a run: a tick, a number that is printed, or how it ends.
type event struct {
	kind string
	n    int
}

// line: the text of a word, taken apart.
type line struct {
	op string
	n  []int // its numbers, in the order of the text
}

// teller does what the texts of an image's words say, with all the ticks that there may be, and writes down what happens; with fewer of them it is cut off.
type teller struct {
	funs  []emit.Fun
	lines []line
	trace []event
	ticks int
	out   int
	deep  int
	left  int // words that it may still take
}

// ended is thrown through all that is still under way.
type ended struct{}

func (r *teller) end(how string, n int) {
	r.trace = append(r.trace, event{how, n})
	panic(ended{})
}

func (r *teller) tick() {
	if r.ticks++; r.ticks > api.MaxTicks {
		r.end("tired", 0)
	}
	r.trace = append(r.trace, event{kind: "tick"})
}

// lines of an image that is well.
func lines(m emit.Image) []line {
	var l []line
	for _, text := range emit.List(m) {
		parts := strings.Fields(text)
		next := line{op: parts[0]}
		for _, p := range parts[1:] {
			n, _ := strconv.Atoi(strings.TrimPrefix(p, "r"))
			next.n = append(next.n, n)
		}
		l = append(l, next)
	}
	return l
}

// traced: all that a function does, to its end; or to "endless", if that is too far.
func traced(m emit.Image, number int, args []int, words int) []event {
	r := &teller{funs: m.Funs, lines: lines(m), left: words}
	func() {
		defer func() {
			if x := recover(); x != nil && x != any(ended{}) {
				panic(x)
			}
		}()
		r.end("done", r.call(number, args))
	}()
	return r.trace
}

// call with all that is its own in maps: what was not set is 0.
func (r *teller) call(number int, args []int) int {
	r.tick()
	if r.deep++; r.deep > api.MaxDeep {
		r.end("deep", 0)
	}
	c := &called{teller: r, fun: r.funs[number], args: args, regs: map[int]int{}, slots: map[int]int{}, next: map[int]int{}}
	value := c.all()
	r.deep--
	return value
}

type called struct {
	*teller
	fun               emit.Fun
	args              []int
	regs, slots, next map[int]int
}

func (c *called) all() int {
	for at := c.fun.Entry; at < len(c.lines); at++ {
		if c.left--; c.left < 0 {
			c.end("endless", 0)
		}
		switch l := c.lines[at]; {
		case l.op == "return":
			return c.regs[l.n[0]]
		case l.op == "jump":
			at = l.n[0] - 1
		case l.op == "if" && c.regs[l.n[0]] != 0:
			at = l.n[1] - 1
		case l.op != "if":
			c.one(l.op, l.n)
		}
	}
	c.end("stuck", 0)
	return 0
}

// needs: stuck, if it is not so.
func (c *called) needs(so bool) {
	if !so {
		c.end("stuck", 0)
	}
}

func (c *called) one(op string, n []int) {
	switch op {
	case "const":
		c.regs[n[0]] = n[1]
	case "high":
		c.regs[n[0]] = c.regs[n[0]]*(1<<32) + (n[1]+1<<32)%(1<<32)
	case "move":
		c.regs[n[0]] = c.regs[n[1]]
	case "load":
		c.needs(n[1] < c.fun.Slots)
		c.regs[n[0]] = c.slots[n[1]]
	case "store":
		c.needs(n[1] < c.fun.Slots)
		c.slots[n[1]] = c.regs[n[0]]
	case "param":
		c.needs(n[1] < c.fun.Params)
		c.regs[n[0]] = c.args[n[1]]
	case "arg":
		c.next[n[1]] = c.regs[n[0]]
	case "call":
		c.needs(n[1] == c.funs[n[2]].Params)
		c.regs[n[0]] = c.call(n[2], c.taken(n[1]))
	case "tick":
		c.tick()
	case "print":
		if c.out++; c.out > api.MaxOut {
			c.end("loud", 0)
		}
		c.trace = append(c.trace, event{"print", c.regs[n[0]]})
	case "neg":
		c.regs[n[0]] = -c.regs[n[1]]
	case "not":
		c.regs[n[0]], _ = val.Do("==", c.regs[n[1]], 0)
	default:
		c.regs[n[0]], _ = val.Do(signs()[op], c.regs[n[1]], c.regs[n[2]])
	}
}

// taken: the arguments that were told since the last call.
func (c *called) taken(many int) []int {
	args := make([]int, many)
	for k := range args {
		args[k] = c.next[k]
	}
	c.next = map[int]int{}
	return args
}

// signs of the ops that reckon of two numbers.
func signs() map[string]string {
	return map[string]string{"add": "+", "sub": "-", "mul": "*", "div": "/", "rem": "%", "and": "&", "or": "|", "xor": "^", "shl": "<<", "shr": ">>", "less": "<", "most": "<=", "same": "==", "other": "!="}
}

// cut a trace at the first tick that is more than ticks.
func cut(trace []event, ticks int) api.Outcome {
	var o api.Outcome
	for _, e := range trace {
		switch {
		case e.kind == "tick" && o.Ticks == ticks:
			o.How = "tired"
			return o
		case e.kind == "tick":
			o.Ticks++
		case e.kind == "print":
			o.Out = append(o.Out, e.n)
		default:
			o.How, o.Value = e.kind, e.n
		}
	}
	return o
}
