package graph

import "kelpforest/api"

// Call of a function.
type Call struct {
	Name string
	Args []int
}

// Done: how a walk ended.
type Done struct {
	How          string
	Value, Ticks int
	Out          []int
	Calls        []Call
}

// mostSteps of a walk, for one without ticks and calls need not come to an end.
const mostSteps = 100000

// Record of a walk through a graph, or through what is made of one: what there was till now. How is empty as long as it goes on.
type Record struct {
	Done
	answers []int
	most    int // ticks
	steps   int
}

// NewRecord of a walk whose calls get these answers, with at most so many ticks.
func NewRecord(answers []int, ticks int) *Record {
	return &Record{answers: answers, most: ticks}
}

// Step: does the walk go on by one step more?
func (r *Record) Step() bool {
	if r.How == "" && r.steps == mostSteps {
		r.Stop("stuck")
	}
	r.steps++
	return r.How == ""
}

// Stop the walk.
func (r *Record) Stop(how string) {
	r.How = how
}

// Tick once.
func (r *Record) Tick() {
	if r.Ticks >= r.most {
		r.Stop("over")
		return
	}
	r.Ticks++
}

// Print a number.
func (r *Record) Print(v int) {
	if len(r.Out) == api.MaxOut {
		r.Stop("over")
		return
	}
	r.Out = append(r.Out, v)
}

// Call a function: it answers what the call gets, and 0 where there is nothing for it.
func (r *Record) Call(name string, args []int) int {
	k := len(r.Calls)
	if k >= len(r.answers) {
		r.Stop("over")
		return 0
	}
	r.Calls = append(r.Calls, Call{Name: name, Args: append([]int{}, args...)})
	return r.answers[k]
}

// Return a number.
func (r *Record) Return(v int) {
	r.Value = v
	r.Stop("done")
}
