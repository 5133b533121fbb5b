package alloc

import (
	"cmp"
	"maps"
	"slices"

	"kelpforest/api"
)

// spot where a value lies: a register, or, from api.Regs on, a slot.
type spot int

func (s spot) isSlot() bool {
	return s >= api.Regs
}

// slot: its number.
func (s spot) slot() int {
	return int(s) - api.Regs
}

// holder of a register: a value, as long as its span lasts. The one that there is at first is over ahead of all others.
type holder struct {
	value int
	span
}

// seats of values, which each of them has as long as its span lasts.
type seats struct {
	spots   map[int]spot
	holders [api.Regs]holder // of the registers, those that came last
	kept    int              // how many of the registers keep values
}

// seatAll values in so many registers, and those that go without in slots; it answers how many slots these are. (When the last one goes without, all registers are held, and by whom they are held then stays: so there are at most as many slots as values less registers.)
func seatAll(spans map[int]span, kept int) (map[int]spot, int) {
	order := slices.SortedFunc(maps.Keys(spans), func(a, b int) int {
		return cmp.Or(cmp.Compare(spans[a].from, spans[b].from), cmp.Compare(a, b))
	})
	s := &seats{spots: map[int]spot{}, kept: kept}
	for _, v := range order {
		s.seat(holder{v, spans[v]})
	}
	var slots []int // of each of them, the last place of what lies there
	for _, v := range order {
		if _, seated := s.spots[v]; seated {
			continue
		}
		k := slices.IndexFunc(slots, func(last int) bool { return last < spans[v].from })
		if k < 0 {
			k = len(slots)
			slots = append(slots, 0)
		}
		slots[k] = spans[v].to
		s.spots[v] = spot(api.Regs + k)
	}
	return s.spots, len(slots)
}

// seat a value in a register that is free. If there is none, of it and the holders the one that would stay longest goes without.
func (s *seats) seat(h holder) {
	longest := -1
	for r, old := range s.holders[:s.kept] {
		if old.to < h.from {
			s.give(r, h)
			return
		}
		if longest < 0 || old.to > s.holders[longest].to {
			longest = r
		}
	}
	if longest >= 0 && s.holders[longest].to > h.to {
		delete(s.spots, s.holders[longest].value)
		s.give(longest, h)
	}
}

// give a register to a value.
func (s *seats) give(r int, h holder) {
	s.holders[r] = h
	s.spots[h.value] = spot(r)
}
