package alloc

// move of what lies in one spot to another one.
type move struct {
	from, to spot
}

// moves behind an arm of a block: of what does not lie there as yet.
func (w *writer) moves(at, arm int) []move {
	var list []move
	for _, p := range w.passes(at, arm) {
		if m := (move{w.spots[p.value], w.spots[p.param]}); m.from != m.to {
			list = append(list, m)
		}
	}
	return list
}

// moveAll as if at once. No two of them go to one spot.
func (w *writer) moveAll(list []move) {
	source := map[spot]spot{} // of each spot to which one goes that is not done yet
	asked := map[spot]int{}   // of each spot, how many of them still come from there
	for _, m := range list {
		source[m.to] = m.from
		asked[m.from]++
	}
	for _, m := range list {
		w.chain(m.to, source, asked)
	}
	for _, m := range list {
		w.ring(m.to, source)
	}
}

// chain of moves: to a spot from which none comes any more; then, if the spot that it came from is such a one now, to that.
func (w *writer) chain(to spot, source map[spot]spot, asked map[spot]int) {
	from, waits := source[to]
	for waits && asked[to] == 0 {
		w.move(from, to)
		delete(source, to)
		asked[from]--
		to = from
		from, waits = source[to]
	}
}

// ring of moves: of those that are no chains, each spot goes to just one other, so that they come back to where they began; what lay there is kept at hand till then.
func (w *writer) ring(first spot, source map[spot]spot) {
	if _, waits := source[first]; !waits {
		return
	}
	hand := spot(w.second)
	w.move(first, hand)
	to := first
	for from := source[to]; from != first; from = source[to] {
		w.move(from, to)
		delete(source, to)
		to = from
	}
	w.move(hand, to)
	delete(source, to)
}

// move one. From slot to slot it goes by a register at hand, which is not the one that a ring has.
func (w *writer) move(from, to spot) {
	switch {
	case from.isSlot() && to.isSlot():
		w.move(from, spot(w.first))
		w.move(spot(w.first), to)
	case from.isSlot():
		w.add(Low{Kind: "load", D: int(to), Num: from.slot()})
	case to.isSlot():
		w.add(Low{Kind: "store", Num: to.slot(), A: int(from)})
	default:
		w.add(Low{Kind: "move", D: int(to), A: int(from)})
	}
}
