package mach_test

import (
	"math/rand"
	"reflect"
	"slices"
	"strings"
	"testing"

	"kelpforest/api"
	"kelpforest/code"
	"kelpforest/emit"
	"kelpforest/mach"
)

// maker of images by chance.
type maker struct {
	*rand.Rand
}

// often the first, else the second.
func (m maker) often(first, second int) int {
	if m.Intn(40) > 0 {
		return first
	}
	return second
}

// to which word it goes from one of so many: mostly to one behind it.
func (m maker) to(from, many int) int {
	if m.Intn(3) == 0 {
		return max(0, from-1-m.Intn(8))
	}
	return min(from+1+m.Intn(4), many-1)
}

// ops: those that are to be seen often stand there often.
const ops = "const const const high move move load load store store param param arg arg arg call call call call tick tick tick tick tick tick print print print print print jump if if if if return neg not add sub mul div rem and or xor shl shr less most same other"

// fits: can a function do this op? Calls go mostly to those behind it, so that many come to an end.
func (m maker) fits(op string, funs []emit.Fun, number int) bool {
	switch f := funs[number]; op {
	case "load", "store":
		return f.Slots > 0 || m.Intn(40) == 0
	case "param":
		return f.Params > 0 || m.Intn(40) == 0
	case "call":
		return number+1 < len(funs) || m.Intn(20) == 0
	}
	return true
}

// ins of a function among others, at this of so many words.
func (m maker) ins(funs []emit.Fun, number, at, many int) code.Ins {
	f := funs[number]
	i := code.Ins{D: m.Intn(api.Regs), A: m.Intn(api.Regs), B: m.Intn(api.Regs), Imm: m.Intn(7) - 3}
	for all := strings.Fields(ops); ; {
		if i.Op = all[m.Intn(len(all))]; m.fits(i.Op, funs, number) {
			break
		}
	}
	switch i.Op {
	case "load", "store":
		i.Imm = m.often(m.Intn(max(1, f.Slots)), m.Intn(api.MaxNodes))
	case "param":
		i.Imm = m.often(m.Intn(max(1, f.Params)), m.Intn(api.MaxParams))
	case "arg":
		i.Imm = m.Intn(api.MaxParams)
	case "call":
		i.Imm = m.often(min(number+1, len(funs)-1), m.Intn(len(funs)))
		i.B = m.often(funs[i.Imm].Params, m.Intn(api.MaxParams+1))
	case "jump", "if":
		i.Imm = m.to(at, many)
	}
	for field, at := range map[string]*int{"d": &i.D, "a": &i.A, "b": &i.B, "imm": &i.Imm} {
		if !slices.Contains(strings.Fields(has(i.Op)), field) {
			*at = 0
		}
	}
	return i
}

// image that is well.
func (m maker) image(t *testing.T) emit.Image {
	t.Helper()
	var made emit.Image
	each := 4 + m.Intn(20)
	many := 1 + m.Intn(4)
	for k := range many {
		made.Funs = append(made.Funs, emit.Fun{Name: []string{"f", "g", "h", "main"}[k], Params: m.Intn(5), Slots: m.Intn(4), Entry: k * each})
	}
	for at := range each * many {
		i := m.ins(made.Funs, at/each, at, each*many)
		if at%each == each-1 && m.Intn(8) > 0 {
			i = code.Ins{Op: "return", A: m.Intn(api.Regs)}
		}
		w, err := code.Encode(i)
		if err != nil {
			t.Fatal(i, err)
		}
		made.Words = append(made.Words, w)
	}
	return made
}

// ticksOf a trace that are worth a try: none but those that it comes to, if it was told without its end.
func (m maker) ticksOf(trace []event) []int {
	last := cut(trace, api.MaxTicks)
	if last.How == "endless" {
		return []int{m.Intn(last.Ticks), last.Ticks - 1}
	}
	return []int{0, 1, 2, 3, m.Intn(last.Ticks + 1), last.Ticks - 1, last.Ticks, min(last.Ticks+1, api.MaxTicks), api.MaxTicks}
}

// P130, P131: images by chance, with ticks from none to all, are cut off pieces of what their texts tell: so with more ticks they do the same, and go on.
func TestByChance(t *testing.T) {
	m := maker{rand.New(rand.NewSource(130))}
	seen := map[string]int{}
	for range 10000 {
		made := m.image(t)
		if err := emit.Check(made); err != nil {
			t.Fatal(err)
		}
		number := m.Intn(len(made.Funs))
		f := made.Funs[number]
		args := make([]int, f.Params)
		for k := range args {
			args[k] = m.Intn(9) - 4
		}
		trace := traced(made, number, args, 20000)
		last := cut(trace, api.MaxTicks)
		for _, ticks := range m.ticksOf(trace) {
			want := cut(trace, ticks)
			o, err := mach.Run(made, f.Name, args, ticks)
			if err != nil || told(o) != told(want) {
				t.Fatalf("%s of %v with %d ticks: %s, %v; want %s\n%+v\n%s", f.Name, args, ticks, told(o), err, told(want), made.Funs, strings.Join(emit.List(made), "\n"))
			}
		}
		seen[last.How]++
		if last.Ticks > 3 && len(last.Out) > 3 {
			seen["long "+last.How]++
		}
	}
	for _, how := range []string{"done", "deep", "tired", "loud", "stuck", "long done", "long deep", "long stuck"} {
		if seen[how] < 50 {
			t.Errorf("too few that are %s: %v", how, seen)
		}
	}
}

// P1, P130: images by chance that are not well are told as emit.Check tells them.
func TestBroken(t *testing.T) {
	m := maker{rand.New(rand.NewSource(131))}
	seen := map[string]int{}
	for range 20000 {
		made := m.image(t)
		for range 1 + m.Intn(3) {
			switch f, w := &made.Funs[m.Intn(len(made.Funs))], &made.Words[m.Intn(len(made.Words))]; m.Intn(6) {
			case 0:
				*w ^= 1 << m.Intn(64)
			case 1:
				*w = m.Uint64()
			case 2:
				f.Name = []string{"", "f", "g", "x"}[m.Intn(4)]
			case 3:
				f.Params = m.Intn(8) - 2
			case 4:
				f.Slots = []int{-1, 0, 1000, 1001}[m.Intn(4)]
			case 5:
				f.Entry = m.Intn(len(made.Words)+4) - 2
			}
		}
		want := emit.Check(made)
		if want == nil {
			seen["well"]++
			continue
		}
		seen[want.Error()]++
		o, err := mach.Run(made, "f", make([]int, m.Intn(5)), m.Intn(9)-2)
		if !reflect.DeepEqual(err, want) || !reflect.DeepEqual(o, api.Outcome{}) {
			t.Fatalf("%s, %v; want %v", told(o), err, want)
		}
	}
	for _, err := range []error{api.ErrBound, api.ErrShape, api.ErrKind, api.ErrName, api.ErrArgs} {
		if seen[err.Error()] < 50 {
			t.Errorf("too few: %v", seen)
		}
	}
}
