package mach_test

import (
	"fmt"
	"math"
	"reflect"
	"slices"
	"strconv"
	"strings"
	"sync"
	"testing"

	"kelpforest/api"
	"kelpforest/code"
	"kelpforest/emit"
	"kelpforest/mach"
)

// has: which fields an op has, in the order of its text, as chapter 11 has it.
func has(op string) string {
	switch op {
	case "tick":
		return ""
	case "jump":
		return "imm"
	case "print", "return":
		return "a"
	case "store", "arg", "if":
		return "a imm"
	case "const", "high", "load", "param":
		return "d imm"
	case "move", "neg", "not":
		return "d a"
	case "call":
		return "d b imm"
	}
	return "d a b"
}

// read the text of an instruction.
func read(t *testing.T, text string) code.Ins {
	t.Helper()
	op, rest, _ := strings.Cut(text, " ")
	i := code.Ins{Op: op}
	told := strings.Fields(rest)
	for k, field := range strings.Fields(has(op)) {
		n, err := strconv.Atoi(strings.TrimPrefix(told[k], "r"))
		if err != nil {
			t.Fatal(text, err)
		}
		*map[string]*int{"d": &i.D, "a": &i.A, "b": &i.B, "imm": &i.Imm}[field] = n
	}
	if code.Text(i) != text {
		t.Fatalf("%q is %+v", text, i)
	}
	return i
}

// fun of an image: its words as texts, with jumps told from its own first word on.
type fun struct {
	name          string
	params, slots int
	text          string
}

// f: an image's only function, or its first one.
func f(params, slots int, text string) fun { return fun{"f", params, slots, text} }

// image of functions, one behind the other.
func image(t *testing.T, l ...fun) emit.Image {
	t.Helper()
	var m emit.Image
	for _, f := range l {
		entry := len(m.Words)
		m.Funs = append(m.Funs, emit.Fun{Name: f.name, Params: f.params, Slots: f.slots, Entry: entry})
		for _, text := range strings.Split(f.text, "; ") {
			i := read(t, text)
			if i.Op == "jump" || i.Op == "if" {
				i.Imm += entry
			}
			w, err := code.Encode(i)
			if err != nil {
				t.Fatal(text, err)
			}
			m.Words = append(m.Words, w)
		}
	}
	if err := emit.Check(m); err != nil {
		t.Fatal(err, l)
	}
	return m
}

func told(o api.Outcome) string {
	return fmt.Sprint(o.How, " ", o.Value, " ", o.Ticks, " ", o.Out)
}

// does: that the function f of an image does this.
func does(t *testing.T, m emit.Image, args []int, ticks int, want string) {
	t.Helper()
	if o, err := mach.Run(m, "f", args, ticks); err != nil || told(o) != want {
		t.Errorf("of %v with %d ticks: %s, %v; want %s\n%s", args, ticks, told(o), err, want, strings.Join(emit.List(m), "; "))
	}
}

// P130: the document's own example, as words.
func TestExample(t *testing.T) {
	m := image(t, f(1, 0, "param r1 0; tick; if r1 4; return r2; add r2 r2 r1; const r3 1; sub r1 r1 r3; jump 1"))
	does(t, m, []int{4}, 1000, "done 10 6 []")
	does(t, m, []int{4}, 6, "done 10 6 []")
	does(t, m, []int{4}, 5, "tired 0 5 []")
	does(t, m, []int{0}, 2, "done 0 2 []")
}

// P130: each op that doesn't reckon, as chapter 11 has it.
func TestOps(t *testing.T) {
	for _, c := range []struct {
		text string
		want string
	}{
		{"return r0", "done 0 1 []"},
		{"const r7 -2147483648; return r7", "done -2147483648 1 []"},
		{"const r7 2147483647; return r6", "done 0 1 []"},
		{"high r1 -1; return r1", "done 4294967295 1 []"},
		{"high r1 2147483647; return r1", "done 2147483647 1 []"},
		{"const r1 -1; high r1 0; return r1", "done -4294967296 1 []"},
		{"const r1 -1; high r1 -1; return r1", "done -1 1 []"},
		{"const r1 -2147483648; high r1 0; return r1", "done -9223372036854775808 1 []"},
		{"const r1 2147483647; high r1 -1; return r1", "done 9223372036854775807 1 []"},
		{"const r1 5; high r1 6; high r1 7; return r1", "done 25769803783 1 []"},
		{"const r1 5; move r2 r1; const r1 6; print r1; return r2", "done 5 1 [6]"},
		{"const r1 5; store r1 0; const r1 6; store r1 3; load r2 0; print r2; load r2 3; print r2; load r2 2; return r2", "done 0 1 [5 6]"},
		{"const r1 5; store r1 3; store r0 3; load r1 3; return r1", "done 0 1 []"},
		{"param r5 0; print r5; param r5 3; return r5", "done -9 1 [11]"},
		{"param r0 1; param r1 2; sub r0 r0 r1; return r0", "done 9 1 []"},
		{"tick; tick; return r0", "done 0 3 []"},
		{"print r1; const r1 3; print r1; print r1; return r0", "done 0 1 [0 3 3]"},
		{"jump 2; return r0; jump 4; print r0; const r1 1; return r1", "done 1 1 []"},
		{"if r1 4; const r1 -1; if r1 4; print r1; return r1", "done -1 1 []"},
		{"const r1 7; neg r2 r1; not r3 r1; not r4 r3; print r2; print r3; neg r1 r1; print r4; return r1", "done -7 1 [-7 0 1]"},
		{"param r1 0; add r1 r1 r1; add r1 r1 r1; return r1", "done 44 1 []"},
	} {
		does(t, image(t, f(4, 4, c.text)), []int{11, 22, 13, -9}, 9, c.want)
	}
}

// P130: each op that reckons: of ordinary numbers, and of those at which it is not as usual.
func TestReckoning(t *testing.T) {
	const least = math.MinInt
	for _, c := range []struct {
		op         string
		a, b, want int
	}{
		{"add", 7, 3, 10}, {"add", math.MaxInt, 1, least},
		{"sub", 7, 3, 4}, {"sub", 3, 7, -4}, {"sub", least, 1, math.MaxInt},
		{"mul", 7, -3, -21}, {"mul", least, -1, least},
		{"div", 7, 2, 3}, {"div", -7, 2, -3}, {"div", 7, 0, 0}, {"div", least, -1, least},
		{"rem", 7, 2, 1}, {"rem", -7, 2, -1}, {"rem", 7, 0, 7}, {"rem", least, -1, 0},
		{"and", 6, 3, 2}, {"and", -1, 9, 9},
		{"or", 6, 3, 7}, {"or", -8, 1, -7},
		{"xor", 6, 3, 5}, {"xor", -1, 0, -1},
		{"shl", 7, 3, 56}, {"shl", 1, 63, least}, {"shl", 1, 64, 1}, {"shl", 1, -1, least},
		{"shr", 56, 3, 7}, {"shr", -1, 63, -1}, {"shr", -9, 1, -5}, {"shr", 8, 65, 4}, {"shr", least, -1, -1},
		{"less", 2, 3, 1}, {"less", 3, 3, 0}, {"less", 4, 3, 0}, {"less", least, math.MaxInt, 1},
		{"most", 2, 3, 1}, {"most", 3, 3, 1}, {"most", 4, 3, 0},
		{"same", 3, 3, 1}, {"same", 3, -3, 0},
		{"other", 3, 3, 0}, {"other", 3, -3, 1},
	} {
		m := image(t, f(2, 0, "param r6 0; param r5 1; "+c.op+" r4 r6 r5; print r6; print r5; return r4"))
		does(t, m, []int{c.a, c.b}, 1, fmt.Sprintf("done %d 1 [%d %d]", c.want, c.a, c.b))
		m = image(t, f(2, 0, "param r6 0; param r5 1; "+c.op+" r5 r6 r5; print r6; return r5"))
		does(t, m, []int{c.a, c.b}, 1, fmt.Sprintf("done %d 1 [%d]", c.want, c.a))
	}
	for _, c := range []struct {
		op      string
		a, want int
	}{{"neg", 7, -7}, {"neg", 0, 0}, {"neg", least, least}, {"not", 0, 1}, {"not", 1, 0}, {"not", least, 0}} {
		does(t, image(t, f(1, 0, "param r6 0; "+c.op+" r6 r6; return r6")), []int{c.a}, 1, fmt.Sprintf("done %d 1 []", c.want))
	}
}

// P130: errors, each ahead of those that are named behind it, with nothing beside.
func TestErrors(t *testing.T) {
	well := image(t, f(1, 0, "return r0"), fun{"g h", 4, 0, "return r0"})
	bad := func(change func(m *emit.Image)) emit.Image {
		m := image(t, f(1, 0, "return r0"), fun{"g", 0, 0, "return r0"})
		change(&m)
		return m
	}
	for _, c := range []struct {
		what  string
		m     emit.Image
		name  string
		args  []int
		ticks int
		want  error
	}{
		{"too many functions", emit.Image{Funs: make([]emit.Fun, api.MaxFuns+1)}, "zz", nil, -1, api.ErrFull},
		{"too many words", emit.Image{Words: make([]uint64, api.MaxWords+1)}, "zz", nil, -1, api.ErrFull},
		{"no word", emit.Image{Words: []uint64{0x0900000000000000, 0}}, "zz", nil, -1, &api.Fault{At: 1, Err: api.ErrKind}},
		{"no name", bad(func(m *emit.Image) { m.Funs[1].Name = "" }), "", nil, -1, &api.Fault{At: 1, Err: api.ErrName}},
		{"a name twice", bad(func(m *emit.Image) { m.Funs[1].Name = "f" }), "f", []int{1}, 1, &api.Fault{At: 1, Err: api.ErrName}},
		{"Params", bad(func(m *emit.Image) { m.Funs[0].Params = 5 }), "f", make([]int, 5), 1, &api.Fault{At: 0, Err: api.ErrArgs}},
		{"Slots", bad(func(m *emit.Image) { m.Funs[1].Slots = 1001 }), "f", []int{1}, 1, &api.Fault{At: 1, Err: api.ErrBound}},
		{"Entry", bad(func(m *emit.Image) { m.Funs[0].Entry = 2 }), "f", []int{1}, 1, &api.Fault{At: 0, Err: api.ErrBound}},
		{"a jump, in words where nobody comes", bad(func(m *emit.Image) { m.Words[1] = 0x0b00000000000002 }), "f", []int{1}, 1, &api.Fault{At: 1, Err: api.ErrBound}},
		{"a field too much", bad(func(m *emit.Image) { m.Words[0]++ }), "g", nil, 1, &api.Fault{At: 0, Err: api.ErrShape}},
		{"nothing", emit.Image{}, "f", nil, 1, api.ErrNone},
		{"another name", well, "zz", []int{1}, 1, api.ErrNone},
		{"no such name, ahead of all behind it", well, "", nil, -1, api.ErrNone},
		{"a longer name", well, "ff", []int{1}, 1, api.ErrNone},
		{"a part of a name", well, "g", nil, 1, api.ErrNone},
		{"too few", well, "f", nil, 1, api.ErrArgs},
		{"too few", well, "f", []int{}, -1, api.ErrArgs},
		{"too many arguments", well, "f", []int{1, 2}, api.MaxTicks + 1, api.ErrArgs},
		{"too many arguments", well, "g h", make([]int, 5), 1, api.ErrArgs},
		{"too many arguments", well, "g h", make([]int, 5000), 1, api.ErrArgs},
		{"ticks", well, "f", []int{1}, -1, api.ErrBound},
		{"ticks", well, "f", []int{1}, math.MinInt, api.ErrBound},
		{"ticks", well, "f", []int{1}, api.MaxTicks + 1, api.ErrBound},
		{"ticks", well, "g h", make([]int, 4), math.MaxInt, api.ErrBound},
		{"least ticks", well, "f", []int{1}, 0, nil},
		{"most ticks", well, "g h", make([]int, 4), api.MaxTicks, nil},
	} {
		o, err := mach.Run(c.m, c.name, c.args, c.ticks)
		if !reflect.DeepEqual(err, c.want) || err != nil && !reflect.DeepEqual(o, api.Outcome{}) {
			t.Errorf("%s: %q of %v with %d: %s, %v; want %v", c.what, c.name, c.args, c.ticks, told(o), err, c.want)
		}
	}
}

// P130: each call and each tick is one; what was printed ahead of the one that is too many stays.
func TestTired(t *testing.T) {
	m := image(t, f(0, 0, "print r0; tick; const r1 1; print r1; call r1 0 1; print r1; tick; return r1"), fun{"g", 0, 0, "const r3 5; print r3; tick; const r3 6; return r3"})
	for ticks, want := range []string{"tired 0 0 []", "tired 0 1 [0]", "tired 0 2 [0 1]", "tired 0 3 [0 1 5]", "tired 0 4 [0 1 5 6]", "done 6 5 [0 1 5 6]", "done 6 5 [0 1 5 6]"} {
		does(t, m, nil, ticks, want)
	}
	turn := image(t, f(0, 0, "tick; jump 0"))
	for _, ticks := range []int{1, 2, api.MaxTicks - 1, api.MaxTicks} {
		does(t, turn, nil, ticks, fmt.Sprint("tired 0 ", ticks, " []"))
	}
}

// P130: as many calls in calls as may be, and one more: behind its tick, and only if there was one; what comes back is no call in a call any more.
func TestDeep(t *testing.T) {
	m := image(t, f(1, 0, "param r1 0; print r1; if r1 4; return r1; const r2 1; sub r1 r1 r2; arg r1 0; call r3 1 0; add r3 r3 r2; return r3"))
	for _, n := range []int{0, 1, 38, 39} {
		o, err := mach.Run(m, "f", []int{n}, 100)
		if err != nil || o.How != "done" || o.Value != n || o.Ticks != n+1 || len(o.Out) != n+1 {
			t.Error(n, told(o), err)
		}
	}
	for _, c := range []struct {
		ticks int
		how   string
		took  int
	}{{39, "tired", 39}, {40, "tired", 40}, {41, "deep", 41}, {42, "deep", 41}, {api.MaxTicks, "deep", 41}} {
		o, err := mach.Run(m, "f", []int{40}, c.ticks)
		if err != nil || o.How != c.how || o.Value != 0 || o.Ticks != c.took || len(o.Out) != min(c.took, 40) {
			t.Error(c, told(o), err)
		}
	}
	wide := image(t, f(0, 0, "const r1 100; const r2 1; call r3 0 1; sub r1 r1 r2; if r1 2; return r3"), fun{"g", 0, 0, "const r1 8; return r1"})
	does(t, wide, nil, 101, "done 8 101 []")
	does(t, wide, nil, 100, "tired 0 100 []")
}

// P130: as many prints as may be, of all calls, and one more.
func TestLoud(t *testing.T) {
	m := image(t, f(1, 0, "param r1 0; const r2 1; call r3 0 1; sub r1 r1 r2; if r1 2; print r1; return r2"), fun{"g", 0, 0, "print r0; print r0; print r0; return r0"})
	for n, want := range map[int]string{1: "done 1 2 4", 332: "done 1 333 997", 333: "done 1 334 1000", 334: "loud 0 335 1000", 5000: "loud 0 335 1000"} {
		o, err := mach.Run(m, "f", []int{n}, api.MaxTicks)
		if got := fmt.Sprint(o.How, " ", o.Value, " ", o.Ticks, " ", len(o.Out)); err != nil || got != want || o.Out[len(o.Out)-1] != 0 {
			t.Errorf("%d: %s, %v; want %s", n, got, err, want)
		}
	}
}

// P130: what is stuck: with what there was till then, and no tick for a call that is none.
func TestStuck(t *testing.T) {
	g := func(params int) fun { return fun{"g", params, 9, "print r0; return r0"} }
	for _, c := range []struct {
		what string
		m    emit.Image
		want string
	}{
		{"too few arguments", image(t, f(2, 0, "print r0; arg r0 0; call r1 1 1; return r0"), g(2)), "stuck 0 1 [0]"},
		{"too many arguments", image(t, f(2, 0, "tick; call r1 2 1; return r0"), g(1)), "stuck 0 2 []"},
		{"arguments of what has none", image(t, f(2, 0, "call r1 4 1; return r0"), g(0)), "stuck 0 1 []"},
		{"none of what has some", image(t, f(2, 0, "call r1 0 1; return r0"), g(4)), "stuck 0 1 []"},
		{"itself", image(t, f(2, 0, "call r1 1 0; return r0")), "stuck 0 1 []"},
		{"a param", image(t, f(2, 0, "param r1 1; print r1; param r1 2; return r1")), "stuck 0 1 [8]"},
		{"a param", image(t, f(2, 0, "print r0; param r1 3; return r1")), "stuck 0 1 [0]"},
		{"a param that the caller has", image(t, f(2, 0, "call r1 0 1; return r0"), fun{"g", 0, 0, "param r1 0; return r1"}), "stuck 0 2 []"},
		{"a load", image(t, f(2, 3, "load r1 2; print r1; load r1 3; return r1")), "stuck 0 1 [0]"},
		{"a store", image(t, f(2, 3, "store r1 2; print r1; store r1 3; return r1")), "stuck 0 1 [0]"},
		{"a load without slots", image(t, f(2, 0, "load r1 0; return r1")), "stuck 0 1 []"},
		{"a slot of the caller", image(t, f(2, 4, "store r1 3; call r1 0 1; return r0"), fun{"g", 0, 1, "store r0 3; return r1"}), "stuck 0 2 []"},
		{"the last slot that may be", image(t, f(2, 999, "store r1 998; load r1 999; return r1")), "stuck 0 1 []"},
		{"behind the last word", image(t, f(2, 0, "const r0 3; print r0; tick")), "stuck 0 2 [3]"},
		{"behind an if that does not jump", image(t, f(2, 0, "if r0 0")), "stuck 0 1 []"},
		{"behind a last call", image(t, fun{"g", 0, 0, "print r0; return r0"}, f(2, 0, "tick; call r1 0 0")), "stuck 0 3 [0]"},
		{"behind the last word, in a call", image(t, f(2, 0, "call r1 0 1; return r0"), fun{"g", 0, 0, "tick"}), "stuck 0 3 []"},
	} {
		if o, err := mach.Run(c.m, "f", []int{7, 8}, 9); err != nil || told(o) != c.want {
			t.Errorf("%s: %s, %v; want %s", c.what, told(o), err, c.want)
		}
	}
	most := image(t, f(2, 1000, "param r1 1; store r1 999; load r2 999; arg r1 3; return r2"))
	does(t, most, []int{7, 8}, 1, "done 8 1 []")
	does(t, image(t, f(0, 0, "tick"), g(0)), nil, 2, "done 0 2 [0]")
}

// P130: a call with not so many arguments is stuck, also where no tick is left, or it would be too deep.
func TestStuckAheadOfTick(t *testing.T) {
	m := image(t, f(0, 0, "call r1 1 0; return r1"))
	does(t, m, nil, 0, "tired 0 0 []")
	does(t, m, nil, 1, "stuck 0 1 []")
	down := "param r1 0; const r2 1; sub r1 r1 r2; arg r1 0; if r1 6; call r3 2 0; call r3 1 0; return r3"
	does(t, image(t, f(1, 0, down)), []int{40}, 99, "stuck 0 40 []")
	does(t, image(t, f(1, 0, down)), []int{41}, 99, "deep 0 41 []")
	does(t, image(t, f(1, 0, down)), []int{40}, 40, "stuck 0 40 []")
}

// turns: an image that takes this many words till it prints, and returns.
func turns(t *testing.T, many int) emit.Image {
	t.Helper()
	ahead := "const r2 1; "
	if many%2 == 1 {
		ahead = "const r2 5; const r2 1; "
	}
	start := 2 + many%2
	text := fmt.Sprintf("%sconst r1 %d; sub r1 r1 r2; if r1 %d; print r2; return r2", ahead, (many-start-2)/2, start)
	return image(t, f(0, 0, text))
}

// P130: behind a hundred million words of all calls it is stuck; till then it goes on.
func TestHundredMillion(t *testing.T) {
	const all = 100_000_000
	for many, want := range map[int]string{9: "done 1 1 [1]", 10: "done 1 1 [1]", all - 1: "done 1 1 [1]", all: "done 1 1 [1]", all + 1: "stuck 0 1 [1]", all + 2: "stuck 0 1 []"} {
		does(t, turns(t, many), nil, 1, want)
	}
	does(t, image(t, f(0, 0, "jump 0")), nil, api.MaxTicks, "stuck 0 1 []")
	does(t, image(t, f(0, 0, "not r1 r1; if r1 0; tick; if r0 0; jump 0")), nil, 7, "tired 0 7 []")
	half := func(many int) string {
		return fmt.Sprintf("const r2 1; const r1 %d; sub r1 r1 r2; if r1 2; ", many/2-1)
	}
	for more, want := range map[string]string{"": "done 1 2 []", "const r3 4; ": "stuck 0 2 []"} {
		m := image(t, f(0, 0, half(all/2-2)+more+"call r3 0 1; return r3"), fun{"g", 0, 0, half(all/2-2) + "const r3 1; return r3"})
		does(t, m, nil, 9, want)
	}
}

// P130: a call's registers and slots are its own, and 0 at first; the caller has its own again, and its D becomes what was answered.
func TestFrames(t *testing.T) {
	var set, tell []string
	for k := range 8 {
		set = append(set, fmt.Sprintf("const r%d %d; store r%d %d", k, 10+k, k, k))
		tell = append(tell, fmt.Sprintf("print r%d", k))
	}
	for k := range 8 {
		tell = append(tell, fmt.Sprintf("load r0 %d; print r0", k))
	}
	join := func(l ...[]string) string { return strings.Join(slices.Concat(l...), "; ") }
	m := image(t,
		f(0, 8, join(set, []string{"call r3 0 1", "call r5 0 1"}, tell, []string{"return r5"})),
		fun{"g", 0, 8, join(tell, []string{"const r0 1; store r0 1; store r0 7"}, set, []string{"const r6 -4; return r6"})})
	zeros := strings.TrimSpace(strings.Repeat("0 ", 32))
	does(t, m, nil, 3, "done -4 3 ["+zeros+" 10 11 12 -4 14 -4 16 17 10 11 12 13 14 15 16 17]")
}

// P130: of its own function: each call has its own, also of one function in itself.
func TestFramesOfItself(t *testing.T) {
	m := image(t, f(2, 1, "param r1 0; param r2 1; print r1; print r2; store r1 0; if r1 7; return r2; const r3 1; sub r4 r1 r3; add r5 r1 r2; arg r4 0; arg r5 1; call r1 2 0; param r6 0; print r6; load r6 0; print r6; print r5; return r1"))
	does(t, m, []int{2, 5}, 9, "done 8 3 [2 5 1 7 0 8 1 1 8 2 2 7]")
}

// P130: arguments of the next call: 0 where they were not told since the last one, in whatever order, and the last that was told.
func TestArguments(t *testing.T) {
	g := fun{"g", 4, 0, "param r0 0; print r0; param r0 1; print r0; param r0 2; print r0; param r0 3; print r0; return r0"}
	none := fun{"none", 0, 0, "arg r0 0; const r0 7; arg r0 1; return r0"}
	ahead := "const r1 1; const r2 2; const r3 3; const r4 4; "
	for _, c := range []struct{ text, want string }{
		{"arg r1 0; arg r2 1; arg r3 2; arg r4 3; call r5 4 1; return r5", "done 4 2 [1 2 3 4]"},
		{"arg r4 3; arg r1 2; arg r1 0; arg r3 1; call r5 4 1; return r5", "done 4 2 [1 3 1 4]"},
		{"arg r4 0; arg r1 0; arg r2 3; call r5 4 1; return r5", "done 2 2 [1 0 0 2]"},
		{"call r5 4 1; return r5", "done 0 2 [0 0 0 0]"},
		{"arg r1 0; arg r2 1; call r5 4 1; arg r3 1; call r5 4 1; return r5", "done 0 3 [1 2 0 0 0 3 0 0]"},
		{"arg r1 0; arg r2 3; call r5 4 1; call r5 4 1; return r5", "done 0 3 [1 0 0 2 0 0 0 0]"},
		{"arg r1 0; arg r2 3; call r5 0 2; arg r3 2; call r5 4 1; return r5", "done 0 3 [0 0 3 0]"},
		{"arg r1 0; move r1 r4; arg r2 1; const r2 9; call r5 4 1; return r1", "done 4 2 [1 2 0 0]"},
		{"arg r1 0; jump 7; return r0; arg r2 1; tick; call r5 4 1; return r5", "done 0 3 [1 2 0 0]"},
	} {
		does(t, image(t, f(0, 0, ahead+c.text), g, none), nil, 9, c.want)
	}
	does(t, image(t, fun{"f", 4, 0, g.text}), []int{math.MinInt, 0, -1, math.MaxInt}, 1, "done 9223372036854775807 1 [-9223372036854775808 0 -1 9223372036854775807]")
}

// P130: a function begins at its Entry, wherever that is; functions may share their words.
func TestEntries(t *testing.T) {
	m := image(t, f(0, 0, "const r1 1; print r1; const r1 2; print r1; return r1"))
	for entry, want := range []string{"done 2 1 [1 2]", "done 2 1 [0 2]", "done 2 1 [2]", "done 0 1 [0]", "done 0 1 []"} {
		m.Funs = []emit.Fun{{Name: "e", Entry: 4}, {Name: "f", Entry: entry}, {Name: "g", Params: 1}}
		does(t, m, nil, 1, want)
	}
	all := emit.Image{Words: image(t, f(0, 0, "param r1 0; return r1")).Words}
	for k := range api.MaxFuns {
		all.Funs = append(all.Funs, emit.Fun{Name: fmt.Sprint("f", k), Params: k % 3, Entry: (k + 1) % 2})
	}
	for k, want := range []string{"done 0 1 []", "done 3 1 []", "done 0 1 []", "stuck 0 1 []", "done 0 1 []", "done 3 1 []", "done 0 1 []", "done 3 1 []"} {
		if o, err := mach.Run(all, fmt.Sprint("f", k), []int{3, 4}[:k%3], 1); err != nil || told(o) != want {
			t.Errorf("%d: %s, %v; want %s", k, told(o), err, want)
		}
	}
}

// P3, P4: an image and arguments are only read, to their length; outcomes are new memory.
func TestMemory(t *testing.T) {
	make1 := func() emit.Image {
		return image(t, f(2, 2, "param r1 0; print r1; store r1 1; arg r1 0; call r2 1 1; print r2; return r2"), fun{"g", 1, 1, "param r1 0; neg r1 r1; store r1 0; return r1"})
	}
	m, args := make1(), []int{4, 5, 6}
	m.Funs, m.Words = append(m.Funs, emit.Fun{})[:2], append(m.Words, 0)[:len(m.Words)]
	first, err := mach.Run(m, "f", args[:2], 9)
	if err != nil || told(first) != "done -4 2 [4 -4]" {
		t.Error(told(first), err)
	}
	if !reflect.DeepEqual(m, make1()) || !slices.Equal(args, []int{4, 5, 6}) || m.Funs[:3][2] != (emit.Fun{}) || m.Words[:len(m.Words)+1][len(m.Words)] != 0 {
		t.Error("what was handed over was changed")
	}
	first.Out[0] = 77
	again, err := mach.Run(m, "f", args[:2], 9)
	if err != nil || told(again) != "done -4 2 [4 -4]" {
		t.Error(told(again), err)
	}
	args[0], m.Words[0], m.Funs[0].Name = 9, 0, "zz"
	if told(again) != "done -4 2 [4 -4]" {
		t.Error("an outcome changed with what it was made of")
	}
	short := image(t, f(0, 0, "tick; return r0"))
	short.Words = short.Words[:1]
	does(t, short, nil, 9, "stuck 0 2 []")
}

// P2, P131: the same comes of the same, whatever ran ahead of it and runs beside it.
func TestSideBySide(t *testing.T) {
	m := image(t, f(2, 3, "param r1 0; param r2 1; store r2 2; tick; print r1; load r4 1; print r4; store r1 1; const r3 1; sub r1 r1 r3; arg r1 0; call r5 1 1; print r5; if r1 3; return r4"), fun{"g", 1, 1, "load r1 0; print r1; param r1 0; store r1 0; mul r1 r1 r1; return r1"})
	want := map[int]string{}
	for n := 1; n < 40; n++ {
		o, err := mach.Run(m, "f", []int{n, -n}, 3*n)
		if err != nil {
			t.Fatal(err)
		}
		want[n] = told(o)
	}
	var group sync.WaitGroup
	for k := range 16 {
		group.Go(func() {
			for n := 39; n > 0; n-- {
				n := (n+k)%39 + 1
				if o, err := mach.Run(m, "f", []int{n, -n}, 3*n); err != nil || told(o) != want[n] {
					t.Errorf("%d: %s, %v; it was %s", n, told(o), err, want[n])
				}
			}
		})
	}
	group.Wait()
}
