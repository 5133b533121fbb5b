package graph

import (
	"kelpforest/api"
	"kelpforest/val"
)

// Call of a function.
type Call struct {
	Name string
	Args []int
}

// Done: how a walk ended.
type Done struct {
	How          string
	Value, Ticks int
	Out          []int
	Calls        []Call
}

// mostWays of a walk, for one without ticks and calls need not come to an end.
const mostWays = 100000

// Walk a graph.
func Walk(g Graph, args, answers []int, ticks int) Done {
	if Check(g) != nil || len(args) != g.Params {
		return Done{How: "stuck"}
	}
	w := &walker{flow: newFlow(g), args: args, answers: answers, most: ticks, values: map[int]value{}}
	way := 0
	for w.ways < mostWays {
		w.ways++
		way = w.follow(w.takers[way])
		if w.How != "" {
			return w.Done
		}
	}
	w.How = "stuck"
	return w.Done
}

// value of a node, reckoned in the walk's so manieth way.
type value struct {
	number, ways int
}

// walker: a walk on its way. How is empty as long as it goes on.
type walker struct {
	*flow
	Done
	args, answers []int
	most          int
	ways          int
	values        map[int]value
}

// stop the walk; the way that it answers is none that is gone.
func (w *walker) stop(how string) int {
	w.How = how
	return 0
}

// follow a way to where it is taken; it answers the next one.
func (w *walker) follow(s spot) int {
	n := w.Nodes[s.node]
	asked, ok := w.ask(w.asked(s))
	if !ok {
		return w.stop("stuck")
	}
	switch n.Kind {
	case "region":
		for i, phi := range w.phis[s.node] {
			w.values[phi] = value{number: asked[i]}
		}
	case "if":
		if asked[0] != 0 {
			return w.yes[s.node]
		}
		return w.no[s.node]
	case "tick":
		if w.Ticks >= w.most {
			return w.stop("over")
		}
		w.Ticks++
	case "print":
		if len(w.Out) == api.MaxOut {
			return w.stop("over")
		}
		w.Out = append(w.Out, asked[0])
	case "call":
		return w.call(s.node, asked)
	case "return":
		w.Value = asked[0]
		return w.stop("done")
	}
	return s.node
}

func (w *walker) call(i int, args []int) int {
	k := len(w.Calls)
	if k >= len(w.answers) {
		return w.stop("over")
	}
	w.Calls = append(w.Calls, Call{Name: w.Nodes[i].Name, Args: args})
	w.values[i] = value{number: w.answers[k]}
	return i
}

// ask for values; false: one of them is not there.
func (w *walker) ask(list []int) ([]int, bool) {
	numbers := make([]int, len(list))
	for i, node := range list {
		v, ok := w.reckon(node)
		if !ok {
			return nil, false
		}
		numbers[i] = v
	}
	return numbers, true
}

// reckon a value. What is reckoned of others is kept till the way is gone, for it may be asked for again, and each of its own again as often.
func (w *walker) reckon(i int) (int, bool) {
	n := w.Nodes[i]
	switch n.Kind {
	case "param":
		return w.args[n.Num], true
	case "const":
		return n.Num, true
	case "phi", "call":
		v, got := w.values[i]
		return v.number, got
	}
	if v := w.values[i]; v.ways == w.ways {
		return v.number, true
	}
	in, ok := w.ask(n.In)
	if !ok {
		return 0, false
	}
	var number int
	if n.Kind == "one" {
		number, _ = val.One(n.Name, in[0])
	} else {
		number, _ = val.Do(n.Name, in[0], in[1])
	}
	w.values[i] = value{number, w.ways}
	return number, true
}
