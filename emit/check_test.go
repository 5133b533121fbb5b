package emit_test

import (
	"math"
	"reflect"
	"slices"
	"testing"

	"kelpforest/api"
	"kelpforest/code"
	"kelpforest/emit"
)

func words(t *testing.T, l ...code.Ins) []uint64 {
	t.Helper()
	var list []uint64
	for _, i := range l {
		w, err := code.Encode(i)
		if err != nil {
			t.Fatal(i, err)
		}
		list = append(list, w)
	}
	return list
}

// at a place; nil is none.
func at(place int, err error) error {
	if err == nil {
		return nil
	}
	return &api.Fault{At: place, Err: err}
}

// three: an image of 3 functions and 6 words.
func three(t *testing.T) emit.Image {
	t.Helper()
	return emit.Image{
		Funs:  []emit.Fun{{Name: "f", Params: 4, Slots: 1000}, {Name: "g", Entry: 5}, {Name: "some thing", Params: 1, Slots: 2, Entry: 2}},
		Words: words(t, code.Ins{Op: "param", D: 1, Imm: 3}, code.Ins{Op: "store", A: 1, Imm: 999}, code.Ins{Op: "call", D: 1, B: 2, Imm: 2}, code.Ins{Op: "if", A: 1, Imm: 5}, code.Ins{Op: "jump", Imm: 0}, code.Ins{Op: "return", A: 1}),
	}
}

// P120: what holds of the whole.
func TestCheck(t *testing.T) {
	many := func(funs, words int) emit.Image {
		m := emit.Image{Words: slices.Repeat([]uint64{0x0900000000000000}, words)}
		for i := range funs {
			m.Funs = append(m.Funs, emit.Fun{Name: string(rune('a' + i)), Entry: max(0, words-1)})
		}
		return m
	}
	for _, c := range []struct {
		what string
		m    emit.Image
		want error
	}{
		{"nothing", emit.Image{}, nil},
		{"empty lists", emit.Image{Funs: []emit.Fun{}, Words: []uint64{}}, nil},
		{"well", three(t), nil},
		{"words without functions", many(0, 9), nil},
		{"as much as may be", many(api.MaxFuns, api.MaxWords), nil},
		{"too many functions", many(api.MaxFuns+1, 1), api.ErrFull},
		{"too many words", many(1, api.MaxWords+1), api.ErrFull},
		{"too many of both", many(api.MaxFuns+1, api.MaxWords+1), api.ErrFull},
		{"too many, ahead of all else", emit.Image{Funs: make([]emit.Fun, api.MaxFuns+1), Words: make([]uint64, 3)}, api.ErrFull},
		{"too many words, ahead of all else", emit.Image{Funs: make([]emit.Fun, 1), Words: make([]uint64, api.MaxWords+1)}, api.ErrFull},
		{"functions without words", many(2, 0), at(0, api.ErrBound)},
		{"functions ahead of words", emit.Image{Funs: []emit.Fun{{Name: "f"}, {}}, Words: []uint64{0}}, at(1, api.ErrName)},
	} {
		if err := emit.Check(c.m); !reflect.DeepEqual(err, c.want) {
			t.Errorf("%s: %v, want %v", c.what, err, c.want)
		}
	}
}

// P120: each function with each field about its edges, of 6 words; the error that is named first, at the first function.
func TestCheckFuns(t *testing.T) {
	outside := func(n, most int) bool { return n < 0 || n > most }
	for place := range 3 {
		for _, name := range []string{"", "f", "g", "some thing", "G", "g "} {
			for _, params := range []int{math.MinInt, -1, 0, 4, 5} {
				for _, slots := range []int{-1, 0, 1000, 1001, math.MaxInt} {
					for _, entry := range []int{math.MinInt, -1, 0, 5, 6, math.MaxInt} {
						m := three(t)
						var ahead, behind []string
						for i, f := range m.Funs {
							if i < place {
								ahead = append(ahead, f.Name)
							} else if i > place {
								behind = append(behind, f.Name)
							}
						}
						m.Funs[place] = emit.Fun{Name: name, Params: params, Slots: slots, Entry: entry}
						var want error
						switch {
						case name == "" || slices.Contains(ahead, name):
							want = at(place, api.ErrName)
						case outside(params, 4):
							want = at(place, api.ErrArgs)
						case outside(slots, 1000) || outside(entry, 5):
							want = at(place, api.ErrBound)
						case slices.Contains(behind, name):
							want = at(place+1+slices.Index(behind, name), api.ErrName)
						}
						if err := emit.Check(m); !reflect.DeepEqual(err, want) {
							t.Fatalf("function %d: %+v: %v, want %v", place, m.Funs[place], err, want)
						}
					}
				}
			}
		}
	}
}

// P120: each op with each Imm about the edges, at each word of an image of 3 functions and 6 words.
func TestCheckWords(t *testing.T) {
	below := map[string]int{"jump": 6, "if": 6, "call": 3, "load": 1000, "store": 1000, "param": 4, "arg": 4}
	for number := uint64(1); number <= 29; number++ {
		for _, imm := range []int32{math.MinInt32, -1, 0, 2, 3, 4, 5, 6, 7, 999, 1000, math.MaxInt32} {
			w := number<<56 | uint64(uint32(imm))
			i, want := code.Decode(w)
			if most, has := below[i.Op]; want == nil && has && (imm < 0 || int(imm) >= most) {
				want = api.ErrBound
			}
			for place := range 6 {
				m := three(t)
				m.Words[place] = w
				if err := emit.Check(m); !reflect.DeepEqual(err, at(place, want)) {
					t.Fatalf("word %d: %#016x (%v): %v, want %v", place, w, i, err, want)
				}
			}
		}
	}
}

// P120: words that are none, and the first of several.
func TestCheckWrongWords(t *testing.T) {
	const none, beyond, far, odd = 0, 0x0308000000000000, 0x0b00000000000006, 0x0901000000000000
	for w, want := range map[uint64]error{none: api.ErrKind, 0x1e00000000000000: api.ErrKind, math.MaxUint64: api.ErrKind, beyond: api.ErrBound, 0x0801000500000002: api.ErrBound, far: api.ErrBound, odd: api.ErrShape, 0x0801010400000009: api.ErrShape, 0x0600010000000009: api.ErrShape} {
		for place := range 6 {
			for _, other := range []uint64{none, beyond, far, odd} {
				m := three(t)
				m.Words[5], m.Words[place] = other, w
				if err := emit.Check(m); !reflect.DeepEqual(err, at(place, want)) {
					t.Fatalf("word %d: %#016x: %v, want %v", place, w, err, want)
				}
			}
		}
	}
}

// P120, P3: a call is not asked for its number of arguments, nor a param and a slot for the function's.
func TestCheckNotAsked(t *testing.T) {
	m := emit.Image{Funs: []emit.Fun{{Name: "f"}}, Words: words(t, code.Ins{Op: "call", B: 4}, code.Ins{Op: "param", Imm: 3}, code.Ins{Op: "load", Imm: 999}, code.Ins{Op: "high", Imm: -1}, code.Ins{Op: "const", Imm: math.MinInt32})}
	if err := emit.Check(m); err != nil {
		t.Error(err)
	}
}

// P122: the text of each word, whether its image is well or not.
func TestList(t *testing.T) {
	want := []string{"param r1 3", "store r1 999", "call r1 2 2", "if r1 5", "jump 0", "return r1"}
	if l := emit.List(three(t)); !slices.Equal(l, want) {
		t.Errorf("%q, want %q", l, want)
	}
	m := emit.Image{Funs: make([]emit.Fun, 20), Words: []uint64{0, 0x01010000ffffffff, 0x1e00000000000000, 0x0308000000000000, 0x0901000000000000, 0x0b00000000000063, 0x0900000000000000, math.MaxUint64}}
	want = []string{"", "const r1 -1", "", "", "", "jump 99", "tick", ""}
	if l := emit.List(m); !slices.Equal(l, want) {
		t.Errorf("%q, want %q", l, want)
	}
	if l := emit.List(emit.Image{Funs: m.Funs}); len(l) != 0 {
		t.Errorf("%q", l)
	}
	long := emit.List(emit.Image{Words: slices.Repeat(words(t, code.Ins{Op: "tick"}), api.MaxWords+1)})
	if len(long) != api.MaxWords+1 || slices.ContainsFunc(long, func(s string) bool { return s != "tick" }) {
		t.Error(len(long))
	}
}

// P122: every op has its text.
func TestListOps(t *testing.T) {
	for number := range uint64(256) {
		w := number << 56
		want := ""
		if i, err := code.Decode(w); err == nil {
			want = code.Text(i)
		}
		if l := emit.List(emit.Image{Words: []uint64{w}}); len(l) != 1 || l[0] != want {
			t.Errorf("%#016x: %q, want %q", w, l, want)
		}
	}
}

// P3, P4: an image is only read, to its length.
func TestCheckMemory(t *testing.T) {
	m, same := three(t), three(t)
	m.Funs, m.Words = append(m.Funs, emit.Fun{})[:3], append(m.Words, 0)[:6]
	if err := emit.Check(m); err != nil {
		t.Error(err)
	}
	first, second := emit.List(m), emit.List(m)
	first[0] = "x"
	if len(second) != 6 || second[0] != "param r1 3" || !reflect.DeepEqual(m, same) || m.Words[:7][6] != 0 || m.Funs[:4][3] != (emit.Fun{}) {
		t.Error(second, m)
	}
}
