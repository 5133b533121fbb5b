package graph

import (
	"maps"

	"kelpforest/api"
	"kelpforest/check"
	"kelpforest/tree"
)

// Build a function's graph.
func Build(f tree.Fun) (Graph, error) {
	if err := check.Alone(f); err != nil {
		return Graph{}, err
	}
	b := &builder{Graph: Graph{Name: f.Name, Params: len(f.Params)}, consts: map[int]int{}}
	b.begin(f.Params)
	b.block(f.Body)
	b.finish()
	if len(b.Nodes) > api.MaxNodes {
		return Graph{}, api.ErrFull
	}
	return b.Graph, nil
}

// end of a way that nobody takes as yet, with the values of the variables there.
type end struct {
	way  int
	vars map[string]int
}

// builder of a graph. Its ends are those from which it goes on: several behind an if, none behind a return. They become one only when something is done there, so that blocks that end together need one region.
type builder struct {
	Graph
	consts map[int]int // by their numbers
	scope  []string    // the variables that are there
	ends   []end
}

func (b *builder) begin(params []string) {
	vars := map[string]int{}
	b.ends = []end{{way: b.add(Node{Kind: "start"}), vars: vars}}
	for i, name := range params {
		vars[name] = b.add(Node{Kind: "param", Num: i})
	}
	b.scope = append(b.scope, params...)
}

// finish: the end of a body answers 0.
func (b *builder) finish() {
	if len(b.ends) > 0 {
		b.join()
		b.answer(b.number(0))
	}
}

func (b *builder) add(n Node) int {
	b.Nodes = append(b.Nodes, n)
	return len(b.Nodes) - 1
}

// number as a value; those that are the same are one node.
func (b *builder) number(n int) int {
	if _, known := b.consts[n]; !known {
		b.consts[n] = b.add(Node{Kind: "const", Num: n})
	}
	return b.consts[n]
}

// here: where it goes on, of what was joined.
func (b *builder) here() *end {
	return &b.ends[0]
}

// step on by a node that takes the way here, and from which it goes on.
func (b *builder) step(kind, name string, values ...int) int {
	at := b.here()
	at.way = b.add(Node{Kind: kind, Name: name, In: append([]int{at.way}, values...)})
	return at.way
}

func (b *builder) answer(v int) {
	b.step("return", "", v)
	b.ends = nil
}

// block: nothing is built of what nobody comes to.
func (b *builder) block(l []tree.Stmt) {
	around := len(b.scope)
	for _, s := range l {
		if len(b.ends) > 0 {
			b.stmt(s)
		}
	}
	b.scope = b.scope[:around]
}

func (b *builder) stmt(s tree.Stmt) {
	if s.Kind == "while" {
		b.loop(s)
		return
	}
	b.join()
	v := b.expr(s.E)
	switch s.Kind {
	case "var":
		b.scope = append(b.scope, s.Name)
		b.here().vars[s.Name] = v
	case "set":
		b.here().vars[s.Name] = v
	case "if":
		no := b.fork(v)
		b.block(s.Then)
		then := b.ends
		b.ends = no
		b.block(s.Else)
		b.ends = append(then, b.ends...)
	case "print":
		b.step("print", "", v)
	case "return":
		b.answer(v)
	}
}

// fork goes on where a value is not 0; it answers where to go on, if it is 0.
func (b *builder) fork(v int) []end {
	at := *b.here()
	i := b.step("if", "", v)
	b.ends = []end{{way: b.add(Node{Kind: "yes", In: []int{i}}), vars: at.vars}}
	return []end{{way: b.add(Node{Kind: "no", In: []int{i}}), vars: maps.Clone(at.vars)}}
}

func (b *builder) loop(s tree.Stmt) {
	sets := map[string]int{}
	countSets(s.Then, sets)
	phis := b.region(sets)
	head := b.here().way
	b.step("tick", "")
	no := b.fork(b.expr(s.E))
	b.block(s.Then)
	b.lead(head, phis)
	b.ends = no
}

// countSets of each name.
func countSets(l []tree.Stmt, sets map[string]int) {
	for _, s := range l {
		if s.Kind == "set" {
			sets[s.Name]++
		}
		countSets(s.Then, sets)
		countSets(s.Else, sets)
	}
}

// join makes several ends one.
func (b *builder) join() {
	if len(b.ends) > 1 {
		b.region(nil)
	}
}

// phi of a variable.
type phi struct {
	name string
	node int
}

// region into which all ends lead. A variable has a phi there, if its values differ, or if it is one of those that are still to be set ahead of other ends that will lead there.
func (b *builder) region(later map[string]int) []phi {
	at := end{way: b.add(Node{Kind: "region"}), vars: map[string]int{}}
	var phis []phi
	for _, name := range b.scope {
		v, same := b.value(name)
		if !same || later[name] > 0 {
			v = b.add(Node{Kind: "phi", In: []int{at.way}})
			phis = append(phis, phi{name, v})
		}
		at.vars[name] = v
	}
	b.lead(at.way, phis)
	b.ends = []end{at}
	return phis
}

// value of a variable at the first end; is it the same at all of them?
func (b *builder) value(name string) (v int, same bool) {
	v, same = b.ends[0].vars[name], true
	for _, e := range b.ends {
		same = same && e.vars[name] == v
	}
	return v, same
}

// lead all ends into a region.
func (b *builder) lead(region int, phis []phi) {
	for _, e := range b.ends {
		b.push(region, e.way)
		for _, p := range phis {
			b.push(p.node, e.vars[p.name])
		}
	}
}

// push one more number into a node's In.
func (b *builder) push(node, i int) {
	b.Nodes[node].In = append(b.Nodes[node].In, i)
}

// expr's value; a call is done on the way, all else floats.
func (b *builder) expr(e tree.Expr) int {
	var kids []int
	for _, k := range e.Kids {
		kids = append(kids, b.expr(k))
	}
	switch e.Kind {
	case "name":
		return b.here().vars[e.Name]
	case "num":
		return b.number(e.Num)
	case "call":
		return b.step("call", e.Name, kids...)
	}
	return b.add(Node{Kind: e.Kind, Name: e.Name, In: kids})
}
