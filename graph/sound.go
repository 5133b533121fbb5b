package graph

// Sound: is a value always there when it is asked for?
func Sound(g Graph) bool {
	f, err := NewFlow(g)
	if err != nil {
		return false
	}
	users := f.users()
	for i, n := range f.Nodes {
		if (n.Kind == "call" || n.Kind == "region") && !f.ahead(i, f.hanging(i, users)) {
			return false
		}
	}
	return true
}

// users: of each node, the ones and twos that are reckoned of it.
func (f *Flow) users() [][]int {
	users := make([][]int, len(f.Nodes))
	for i, n := range f.Nodes {
		if n.Kind == "one" || n.Kind == "two" {
			for _, k := range n.In {
				users[k] = append(users[k], i)
			}
		}
	}
	return users
}

// hanging: the values that are there only behind a call, or a region. They are told by numbers that are not 0.
func (f *Flow) hanging(i int, users [][]int) map[int]int {
	first := f.Phis[i]
	if f.Nodes[i].Kind == "call" {
		first = []int{i}
	}
	hanging := map[int]int{}
	Visit(len(f.Nodes), first, func(at int) []int {
		hanging[at]++
		return users[at]
	})
	return hanging
}

// ahead: is a call or region come to ahead of all that ask for what hangs on it? It is so if nobody asks on ways that don't go on behind it.
func (f *Flow) ahead(i int, hanging map[int]int) bool {
	well := true
	Visit(len(f.Nodes), []int{0}, func(way int) []int {
		to := f.Takers[way]
		for _, v := range f.asked(to) {
			well = well && hanging[v] == 0
		}
		if to.Node == i {
			return nil
		}
		return f.Behind(to.Node)
	})
	return well
}
