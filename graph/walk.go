package graph

// Walk a graph.
func Walk(g Graph, args, answers []int, ticks int) Done {
	f, err := NewFlow(g)
	if err != nil || len(args) != g.Params {
		return Done{How: "stuck"}
	}
	w := &walker{Flow: f, Record: NewRecord(answers, ticks), args: args, values: map[int]value{}}
	way := 0
	for w.Step() {
		way = w.follow(w.Takers[way])
	}
	return w.Done
}

// value of a node, reckoned in the walk's so manieth step.
type value struct {
	number, step int
}

// walker: a walk on its way.
type walker struct {
	*Flow
	*Record
	args   []int
	values map[int]value
}

// follow a way to where it is taken; it answers the next one (if the walk stops there: any).
func (w *walker) follow(s Spot) int {
	n := w.Nodes[s.Node]
	asked, ok := w.ask(w.asked(s))
	if !ok {
		w.Stop("stuck")
		return 0
	}
	switch n.Kind {
	case "region":
		for i, phi := range w.Phis[s.Node] {
			w.values[phi] = value{number: asked[i]}
		}
	case "if":
		if asked[0] != 0 {
			return w.Yes[s.Node]
		}
		return w.No[s.Node]
	case "tick":
		w.Tick()
	case "print":
		w.Print(asked[0])
	case "call":
		w.values[s.Node] = value{number: w.Call(n.Name, asked)}
	case "return":
		w.Return(asked[0])
	}
	return s.Node
}

// ask for values; false: one of them is not there.
func (w *walker) ask(list []int) ([]int, bool) {
	numbers := make([]int, len(list))
	for i, node := range list {
		v, ok := w.reckon(node)
		if !ok {
			return nil, false
		}
		numbers[i] = v
	}
	return numbers, true
}

// reckon a value. What is reckoned of others is kept till the step is done, for it may be asked for again, and each of its own again as often.
func (w *walker) reckon(i int) (int, bool) {
	n := w.Nodes[i]
	switch n.Kind {
	case "param":
		return w.args[n.Num], true
	case "const":
		return n.Num, true
	case "phi", "call":
		v, got := w.values[i]
		return v.number, got
	}
	if v := w.values[i]; v.step == w.steps {
		return v.number, true
	}
	in, ok := w.ask(n.In)
	if !ok {
		return 0, false
	}
	number, _ := Reckon(n.Kind, n.Name, in)
	w.values[i] = value{number, w.steps}
	return number, true
}
