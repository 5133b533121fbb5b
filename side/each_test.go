package side

import (
	"errors"
	"fmt"
	"math/rand"
	"slices"
	"sync/atomic"
	"testing"
	"time"

	"kelpforest/api"
)

// patience: how long tasks wait for each other, which is only ever over where something is broken.
const patience = 10 * time.Second

// wait for a channel that is closed; false where it is not, for long.
func wait(c <-chan bool) bool {
	select {
	case <-c:
		return true
	case <-time.After(patience):
		return false
	}
}

func upTo(count int) []int {
	l := make([]int, count)
	for i := range l {
		l[i] = i
	}
	return l
}

// endIn an order: tasks of which each ends only when the one ahead of it in that order has ended.
func endIn(order []int, fails func(task int) bool) func(int) (string, error) {
	ended := make([]chan bool, len(order))
	for i := range ended {
		ended[i] = make(chan bool)
	}
	return func(task int) (string, error) {
		defer close(ended[task])
		if at := slices.Index(order, task); at > 0 && !wait(ended[order[at-1]]) {
			return "", api.ErrFull
		}
		if fails(task) {
			return "an answer beside an error", &api.Fault{At: 1000, Err: fmt.Errorf("%w of %d", api.ErrText, task)}
		}
		return fmt.Sprint("answer ", task), nil
	}
}

// P151: answers stand in the order of their tasks, in whatever order these end.
func TestOrder(t *testing.T) {
	r := rand.New(rand.NewSource(151))
	for range 300 {
		count := 1 + r.Intn(api.Workers)
		order := r.Perm(count)
		answers, err := all(upTo(count), api.Workers, endIn(order, func(int) bool { return false }))
		if err != nil || len(answers) != count {
			t.Fatal(order, answers, err)
		}
		for i, a := range answers {
			if a != fmt.Sprint("answer ", i) {
				t.Fatal(order, answers)
			}
		}
	}
}

// P150, P151: of several that fail, the first one is told, in whatever order they end.
func TestOrderOfErrors(t *testing.T) {
	r := rand.New(rand.NewSource(152))
	for range 300 {
		count := 1 + r.Intn(api.Workers)
		first := r.Intn(count)
		also := r.Intn(count)
		order := r.Perm(count)
		answers, err := all(upTo(count), count, endIn(order, func(task int) bool { return task == first || task > first && task >= also }))
		var f *api.Fault
		if len(answers) != 0 || !errors.As(err, &f) || f.At != first || f.Err.Error() != fmt.Sprint("kelpforest: text of ", first) || !errors.Is(err, api.ErrText) {
			t.Fatal(order, first, answers, err)
		}
	}
}

// P150: so many are at work at once, and never more.
func TestAtOnce(t *testing.T) {
	for workers := 1; workers <= api.Workers; workers++ {
		var at, most atomic.Int64
		met := make(chan bool)
		answers, err := all(upTo(3*workers), workers, func(task int) (bool, error) {
			now := at.Add(1)
			defer at.Add(-1)
			for old := most.Load(); now > old && !most.CompareAndSwap(old, now); old = most.Load() {
			}
			if now == int64(workers) && task < workers {
				close(met)
			}
			well := wait(met)
			time.Sleep(time.Millisecond) // for one more at work, if there is one, to come
			return well, nil
		})
		if err != nil || slices.Contains(answers, false) || most.Load() != int64(workers) {
			t.Error(workers, most.Load(), answers, err)
		}
	}
}

// P150: each task is done once, by any number of workers.
func TestOnce(t *testing.T) {
	for workers := 1; workers <= api.Workers; workers++ {
		for count := range mostTasks + 1 {
			done := make([]atomic.Int64, count)
			list := each(upTo(count), workers, func(task int) (struct{ n int }, error) {
				done[task].Add(1)
				return struct{ n int }{task * task}, nil
			})
			if len(list) != count {
				t.Fatal(workers, count, len(list))
			}
			for i, m := range list {
				if m.number != i || m.answer.n != i*i || m.err != nil || done[i].Load() != 1 {
					t.Fatal(workers, count, i, m, done[i].Load())
				}
			}
		}
	}
}

// P150: an error's place is aside, however many are around it.
func TestBare(t *testing.T) {
	for _, c := range []struct{ err, want error }{
		{nil, nil},
		{api.ErrArgs, api.ErrArgs},
		{&api.Fault{At: 3, Err: api.ErrName}, api.ErrName},
		{&api.Fault{At: 3, Err: &api.Fault{At: 0, Err: api.ErrShape}}, api.ErrShape},
	} {
		if got := bare(c.err); got != c.want {
			t.Errorf("%v; want %v", got, c.want)
		}
	}
}
