package graph_test

import (
	"reflect"
	"testing"

	"kelpforest/api"
	"kelpforest/graph"
)

// What other packages share: of what is none it tells an error, and no number.
func TestReckon(t *testing.T) {
	for _, c := range []struct {
		kind, op string
		in       []int
		want     int
		err      error
	}{
		{"one", "-", []int{5}, -5, nil},
		{"one", "!", []int{0}, 1, nil},
		{"two", "-", []int{5, 7}, -2, nil},
		{"two", "/", []int{5, 0}, 0, nil},
		{"one", "+", []int{5}, 0, api.ErrKind},
		{"two", "!", []int{5, 7}, 0, api.ErrKind},
		{"one", "-", []int{5, 7}, 0, api.ErrKind},
		{"two", "-", []int{5}, 0, api.ErrKind},
		{"two", "-", nil, 0, api.ErrKind},
		{"const", "", nil, 0, api.ErrKind},
	} {
		if v, err := graph.Reckon(c.kind, c.op, c.in); v != c.want || err != c.err {
			t.Errorf("%s %s of %v: %d, %v", c.kind, c.op, c.in, v, err)
		}
	}
	if !graph.HasOp("one", "!") || !graph.HasOp("two", "<<") || !graph.HasOp("call", "h") || graph.HasOp("one", "+") || graph.HasOp("two", "!") {
		t.Error("HasOp")
	}
}

func TestFlow(t *testing.T) {
	f, err := graph.NewFlow(sum())
	if err != nil || f.Takers[10] != (graph.Spot{Node: 4, In: 1}) || f.Yes[8] != 9 || f.No[8] != 13 || !reflect.DeepEqual(f.Phis[4], []int{5, 6}) {
		t.Error(f, err)
	}
	if !reflect.DeepEqual(f.Behind(8), []int{9, 13}) || !reflect.DeepEqual(f.Behind(7), []int{7}) || len(f.Behind(15)) > 0 {
		t.Error(f.Behind(8), f.Behind(7), f.Behind(15))
	}
	if f, err := graph.NewFlow(of(0, node("start"))); f != nil || !reflect.DeepEqual(err, &api.Fault{Err: api.ErrShape}) {
		t.Error(f, err)
	}
}
