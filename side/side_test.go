package side_test

import (
	"errors"
	"fmt"
	"math"
	"math/rand"
	"reflect"
	"runtime"
	"slices"
	"strings"
	"sync"
	"testing"
	"time"

	"kelpforest/api"
	"kelpforest/drive"
	"kelpforest/side"
)

const (
	twice   = "fn main(a) { return a * 2; }"
	counted = "fn main(a) { while a { print a; a = a - 1; } }"
	endless = "fn main(b) { return main(b); }"
	noisy   = "fn main(a) { while 1 { print a; print 0 - a; } }"
	second  = "fn f(a) { print a; return a - 1; } fn main(a) { return f(a) + f(a * a); }"
	folded  = "fn main(a) { return a + 2 * 3 + a * (7 - 5); }"
	nothing = "fn main(a) { }"
)

// wells: texts with a main of one parameter.
func wells() []string {
	return []string{twice, counted, endless, noisy, second, folded, nothing}
}

// wrongText fails in its own way, mostly with a place of its own.
type wrongText struct {
	text      string
	run, size error
}

func wrongs() []wrongText {
	inner := strings.Repeat("(", api.MaxNest) + "a" + strings.Repeat(")", api.MaxNest)
	return []wrongText{
		{"fn main(a) { @ }", api.ErrText, api.ErrText},
		{"fn", api.ErrText, api.ErrText},
		{strings.Repeat(" ", api.MaxText+1), api.ErrBound, api.ErrBound},
		{strings.Repeat(";", api.MaxTokens+1), api.ErrFull, api.ErrFull},
		{strings.Repeat("fn f() { } ", api.MaxFuns+1), api.ErrFull, api.ErrFull},
		{"fn main(a) { return " + inner + "; }", api.ErrDeep, api.ErrDeep},
		{"fn f() { } fn main(a) { return b; }", api.ErrNone, api.ErrNone},
		{"fn main(a) { } fn main(a) { }", api.ErrExist, api.ErrExist},
		{"fn f() { } fn g() { } fn main(a) { return main(); }", api.ErrArgs, api.ErrArgs},
		{"fn f(a) { return a; }", api.ErrNone, nil},
		{"", api.ErrNone, nil},
		{"fn main() { return 1; }", api.ErrArgs, nil},
	}
}

// bareOf an error: its place aside.
func bareOf(err error) error {
	var f *api.Fault
	if errors.As(err, &f) {
		return f.Err
	}
	return err
}

// wrong: that it is this error at this place (bare, where that is below 0), and nothing beside.
func wrong(t *testing.T, about string, count int, err, want error, at int) {
	t.Helper()
	f, placed := err.(*api.Fault)
	alike := at < 0 && err == want || at >= 0 && placed && f.At == at && f.Err == want
	if count != 0 || !alike {
		t.Errorf("%s: %d answers, %#v; want %v at %d", about, count, err, want, at)
	}
}

// runsOf texts, one behind the other; At is -1 where none fails.
func runsOf(l []string, level int, args []int, ticks int) (list []api.Outcome, failed error, at int) {
	for i, s := range l {
		o, err := drive.Run(s, level, "main", args, ticks)
		if err != nil {
			return nil, bareOf(err), i
		}
		list = append(list, o)
	}
	return list, nil, -1
}

// sizesOf texts, one behind the other.
func sizesOf(l []string, level int) (list []int, failed error, at int) {
	for i, s := range l {
		m, err := drive.Compile(s, level)
		if err != nil {
			return nil, bareOf(err), i
		}
		list = append(list, drive.Size(m))
	}
	return list, nil, -1
}

// P150: the outcomes of main, in the order of the texts.
func TestRuns(t *testing.T) {
	l := []string{twice, counted, endless, second, folded, nothing}
	for _, c := range []struct {
		arg, ticks int
		want       string
	}{
		{3, 12, "[{done 6 [] 1} {done 0 [3 2 1] 5} {tired 0 [] 12} {done 10 [3 9] 3} {done 15 [] 1} {done 0 [] 1}]"},
		{1, api.MaxTicks, "[{done 2 [] 1} {done 0 [1] 3} {deep 0 [] 41} {done 0 [1 1] 3} {done 9 [] 1} {done 0 [] 1}]"},
		{-1, 2, "[{done -2 [] 1} {tired 0 [-1] 2} {tired 0 [] 2} {tired 0 [-1] 2} {done 3 [] 1} {done 0 [] 1}]"},
		{5, 0, "[{tired 0 [] 0} {tired 0 [] 0} {tired 0 [] 0} {tired 0 [] 0} {tired 0 [] 0} {tired 0 [] 0}]"},
	} {
		for level := range 2 {
			if o, err := side.Runs(l, level, []int{c.arg}, c.ticks, 3); err != nil || fmt.Sprint(o) != c.want {
				t.Errorf("of %d with %d ticks, level %d: %v, %v", c.arg, c.ticks, level, o, err)
			}
		}
	}
	o, err := side.Runs([]string{noisy, "fn main(a) { print 7; }"}, 1, []int{3}, api.MaxTicks, 2)
	if err != nil || len(o) != 2 || o[0].How != "loud" || len(o[0].Out) != api.MaxOut || fmt.Sprint(o[1]) != "{done 0 [7] 1}" {
		t.Error(o, err)
	}
	o, err = side.Runs([]string{"fn main() { return 4; }", "fn f(a) { return a; } fn main() { return f(5); }"}, 0, nil, 9, 1)
	if err != nil || fmt.Sprint(o) != "[{done 4 [] 1} {done 5 [] 2}]" {
		t.Error(o, err)
	}
}

// P150: the words of each text, at its level, with a main or without.
func TestSizes(t *testing.T) {
	l := append(wells(), "", "fn f() { return 99999999999; }", "fn f(a, b) { while a { a = a - b; } } fn g() { return f(1, 2); }")
	for level := range 2 {
		want, err, _ := sizesOf(l, level)
		if err != nil || len(want) != len(l) {
			t.Fatal(want, err)
		}
		if got, err := side.Sizes(l, level, 4); err != nil || !slices.Equal(got, want) {
			t.Errorf("level %d: %v, %v; want %v", level, got, err, want)
		}
	}
	zero, _ := side.Sizes([]string{folded, twice}, 0, 1)
	one, _ := side.Sizes([]string{folded, twice}, 1, 1)
	if len(zero) != 2 || len(one) != 2 || one[0] >= zero[0] || one[1] != zero[1] {
		t.Error(zero, one)
	}
}

// P150: no texts have no answers, and no error, but of the number of workers.
func TestNoTexts(t *testing.T) {
	for _, l := range [][]string{nil, {}} {
		if o, err := side.Runs(l, 9, nil, -1, 1); len(o) != 0 || err != nil {
			t.Error(o, err)
		}
		if z, err := side.Sizes(l, -1, api.Workers); len(z) != 0 || err != nil {
			t.Error(z, err)
		}
		_, err := side.Runs(l, 1, nil, 1, 0)
		wrong(t, "runs", 0, err, api.ErrShape, -1)
		_, err = side.Sizes(l, 1, 17)
		wrong(t, "sizes", 0, err, api.ErrShape, -1)
	}
}

// P150: from 1 to Workers of them, whatever else is wrong, too.
func TestWorkers(t *testing.T) {
	for _, w := range []int{math.MinInt, -16, -1, 0, api.Workers + 1, 100, math.MaxInt} {
		for _, l := range [][]string{{twice}, {"@"}, slices.Repeat([]string{twice}, 101), slices.Repeat([]string{"@"}, 200)} {
			for _, level := range []int{0, 1, 2} {
				about := fmt.Sprintf("%d workers, %d texts, level %d", w, len(l), level)
				o, err := side.Runs(l, level, nil, -1, w)
				wrong(t, about, len(o), err, api.ErrShape, -1)
				z, err := side.Sizes(l, level, w)
				wrong(t, about, len(z), err, api.ErrShape, -1)
			}
		}
	}
}

// P150: a hundred texts are not too many; one more is, whatever they are.
func TestMany(t *testing.T) {
	for _, s := range []string{twice, "@"} {
		for _, count := range []int{101, 102, 1000} {
			l := slices.Repeat([]string{s}, count)
			for _, level := range []int{-1, 0, 1} {
				o, err := side.Runs(l, level, nil, -1, 1)
				wrong(t, s, len(o), err, api.ErrBound, -1)
				z, err := side.Sizes(l, level, api.Workers)
				wrong(t, s, len(z), err, api.ErrBound, -1)
			}
		}
	}
	l := slices.Repeat([]string{twice}, 100)
	for _, w := range []int{1, 7, api.Workers} {
		if o, err := side.Runs(l, 1, []int{4}, 1, w); err != nil || len(o) != 100 || fmt.Sprint(o[0], o[99]) != "{done 8 [] 1} {done 8 [] 1}" {
			t.Error(w, o, err)
		}
		if z, err := side.Sizes(l, 1, w); err != nil || len(z) != 100 || z[0] == 0 || z[99] != z[0] {
			t.Error(w, z, err)
		}
	}
	l[99] = "fn f() { return @; }"
	o, err := side.Runs(l, 1, []int{4}, 1, 5)
	wrong(t, "the hundredth", len(o), err, api.ErrText, 99)
	z, err := side.Sizes(l, 1, 5)
	wrong(t, "the hundredth", len(z), err, api.ErrText, 99)
}

// P150: each error of a text, at its number, without the place that the text's error has.
func TestWrong(t *testing.T) {
	for _, c := range wrongs() {
		for at := range 4 {
			l := slices.Repeat([]string{twice}, 4)
			l[at] = c.text
			about := fmt.Sprintf("%.60q at %d", c.text, at)
			for w := 1; w <= 5; w++ {
				o, err := side.Runs(l, w%2, []int{1}, 9, w)
				wrong(t, about, len(o), err, c.run, at)
				z, err := side.Sizes(l, w%2, w)
				if c.size != nil {
					wrong(t, about, len(z), err, c.size, at)
				} else if err != nil || len(z) != 4 {
					t.Error(about, z, err)
				}
			}
		}
	}
}

// P150: of what all texts have, the first one tells; the level is ahead of the text.
func TestOfAll(t *testing.T) {
	for w := 1; w <= api.Workers; w++ {
		for _, level := range []int{math.MinInt, -1, 2, math.MaxInt} {
			o, err := side.Runs([]string{"@", twice}, level, nil, -1, w)
			wrong(t, "level", len(o), err, api.ErrBound, 0)
			z, err := side.Sizes([]string{"@", twice}, level, w)
			wrong(t, "level", len(z), err, api.ErrBound, 0)
		}
		for _, ticks := range []int{math.MinInt, -1, api.MaxTicks + 1, math.MaxInt} {
			o, err := side.Runs(wells(), 1, []int{1}, ticks, w)
			wrong(t, "ticks", len(o), err, api.ErrBound, 0)
			o, err = side.Runs(wells(), 1, nil, ticks, w)
			wrong(t, "args ahead of ticks", len(o), err, api.ErrArgs, 0)
		}
		for _, args := range [][]int{nil, {}, {1, 2}, {1, 2, 3, 4, 5}} {
			o, err := side.Runs(append([]string{"fn main() { }", "fn main(a, b) { }"}, wells()...)[min(len(args), 2):], 0, args, 1, w)
			wrong(t, "args", len(o), err, api.ErrArgs, map[int]int{0: 1, 2: 0, 5: 0}[len(args)])
		}
	}
}

// P150, P151: the first that has an error is told, however fast those behind it have theirs.
func TestFirst(t *testing.T) {
	slow := noisy[:len(noisy)-1] + "return b; }"
	slow = strings.Repeat(" ", api.MaxText-len(slow)) + slow
	l := append(wells(), slow, "@", "fn", twice, "@")
	for w := 1; w <= api.Workers; w++ {
		for range 20 {
			o, err := side.Runs(l, 1, []int{3}, api.MaxTicks, w)
			wrong(t, "runs", len(o), err, api.ErrNone, len(wells()))
			z, err := side.Sizes(l, 1, w)
			wrong(t, "sizes", len(z), err, api.ErrNone, len(wells()))
		}
	}
}

// texts by chance, of which some fail.
func texts(r *rand.Rand) []string {
	var l []string
	spoilt := r.Intn(2) == 0
	for range r.Intn(30) {
		s := wells()[r.Intn(len(wells()))]
		if spoilt && r.Intn(8) == 0 {
			s = wrongs()[r.Intn(len(wrongs()))].text
		}
		l = append(l, s)
	}
	return l
}

// P150, P151: by however many, it is as one behind the other.
func TestByChance(t *testing.T) {
	r := rand.New(rand.NewSource(150))
	seen := map[string]int{}
	for range 300 {
		l, level, ticks := texts(r), r.Intn(2), r.Intn(60)
		args := []int{r.Intn(20) - 4}
		runs, runErr, runAt := runsOf(l, level, args, ticks)
		sizes, sizeErr, sizeAt := sizesOf(l, level)
		for range 5 {
			w := 1 + r.Intn(api.Workers)
			o, err := side.Runs(l, level, args, ticks, w)
			if runErr != nil {
				wrong(t, fmt.Sprintf("%.60q", l), len(o), err, runErr, runAt)
				seen[runErr.Error()]++
			} else if err != nil || fmt.Sprint(o) != fmt.Sprint(runs) {
				t.Fatalf("%v, %v; want %v\n%q", o, err, runs, l)
			} else {
				seen["runs"]++
			}
			z, err := side.Sizes(l, level, w)
			if sizeErr != nil {
				wrong(t, fmt.Sprintf("%.60q", l), len(z), err, sizeErr, sizeAt)
			} else if err != nil || !slices.Equal(z, sizes) {
				t.Fatalf("%v, %v; want %v\n%q", z, err, sizes, l)
			} else {
				seen["sizes"]++
			}
		}
	}
	for _, kind := range []error{errors.New("runs"), errors.New("sizes"), api.ErrText, api.ErrBound, api.ErrFull, api.ErrNone, api.ErrArgs} {
		if seen[kind.Error()] < 10 {
			t.Errorf("too few of %v: %v", kind, seen)
		}
	}
}

// P2, P151: calls beside each other, by different numbers of workers, don't touch each other.
func TestBeside(t *testing.T) {
	l, args := append(wells(), wells()...), []int{6}
	want, _, _ := runsOf(l, 1, args, 40)
	sizes, _, _ := sizesOf(l, 1)
	var group sync.WaitGroup
	for w := 1; w <= api.Workers; w++ {
		group.Go(func() {
			for range 20 {
				if o, err := side.Runs(l, 1, args, 40, w); err != nil || !reflect.DeepEqual(o, want) {
					t.Errorf("%d workers: %v, %v", w, o, err)
				}
				if z, err := side.Sizes(l, 1, w); err != nil || !slices.Equal(z, sizes) {
					t.Errorf("%d workers: %v, %v", w, z, err)
				}
			}
		})
	}
	group.Wait()
}

// P3, P4: lists are only read, to their length; answers are new memory.
func TestMemory(t *testing.T) {
	l := append(wells(), "@")
	args := []int{3, 99}
	o, err := side.Runs(l[:len(wells())], 1, args[:1], 50, 4)
	z, sizeErr := side.Sizes(l[:len(wells())], 1, 4)
	if err != nil || sizeErr != nil || !slices.Equal(l, append(wells(), "@")) || !slices.Equal(args, []int{3, 99}) {
		t.Fatal(err, sizeErr, l, args)
	}
	args[0], l[0] = 8, ""
	want, _, _ := runsOf(wells(), 1, []int{3}, 50)
	if fmt.Sprint(o) != fmt.Sprint(want) {
		t.Errorf("changed with what was handed over: %v", o)
	}
	z[0] = -1
	if again, _ := side.Sizes(wells(), 1, 4); again[0] == -1 {
		t.Error("kept")
	}
	same, _ := side.Runs([]string{counted, counted, counted}, 0, []int{3}, 50, 2)
	same[0].Out[0] = 77
	_ = append(same[1].Out, 78, 79)
	_ = append(same[:1], api.Outcome{})
	if fmt.Sprint(same[2]) != "{done 0 [3 2 1] 5}" {
		t.Errorf("shared: %v", same)
	}
	if again, _ := side.Runs([]string{counted}, 0, []int{3}, 50, 2); fmt.Sprint(again) != "[{done 0 [3 2 1] 5}]" {
		t.Errorf("kept: %v", again)
	}
}

// P151: nobody is at work any more when the call has answered.
func TestJoined(t *testing.T) {
	before := runtime.NumGoroutine()
	for w := 0; w <= api.Workers+1; w++ {
		for _, l := range [][]string{nil, wells(), {"@", twice, "@"}, slices.Repeat([]string{noisy}, 101)} {
			side.Runs(l, 1, []int{3}, api.MaxTicks, w)
			side.Sizes(l, 1, w)
		}
	}
	for range 1000 {
		if runtime.NumGoroutine() <= before {
			return
		}
		time.Sleep(time.Millisecond)
	}
	t.Errorf("%d goroutines, where there were %d", runtime.NumGoroutine(), before)
}
