// Package everywhere tests what holds of all packages; it stands beside package api, which stays as it was given.
package everywhere

import (
	"errors"
	"testing"

	"kelpforest/api"
	"kelpforest/plain"
)

// P5: the bounds have their numbers.
func TestBounds(t *testing.T) {
	for _, c := range []struct {
		name      string
		got, want int
	}{
		{"MaxText", api.MaxText, 4000},
		{"MaxTokens", api.MaxTokens, 1000},
		{"MaxFuns", api.MaxFuns, 8},
		{"MaxParams", api.MaxParams, 4},
		{"MaxVars", api.MaxVars, 12},
		{"MaxNest", api.MaxNest, 12},
		{"MaxName", api.MaxName, 8},
		{"MaxNodes", api.MaxNodes, 1000},
		{"MaxBlocks", api.MaxBlocks, 1000},
		{"Regs", api.Regs, 8},
		{"MaxSlots", api.MaxSlots, 250},
		{"MaxWords", api.MaxWords, 8000},
		{"MaxDeep", api.MaxDeep, 40},
		{"MaxTicks", api.MaxTicks, 5000},
		{"MaxOut", api.MaxOut, 1000},
		{"MaxLines", api.MaxLines, 60},
		{"Workers", api.Workers, 16},
	} {
		if c.got != c.want {
			t.Errorf("%s = %d, want %d", c.name, c.got, c.want)
		}
	}
}

type told struct {
	err  error
	text string
}

// errorsTold: the errors in the order of their numbers.
func errorsTold() []told {
	return []told{
		{api.ErrText, "kelpforest: text"},
		{api.ErrBound, "kelpforest: bound"},
		{api.ErrShape, "kelpforest: shape"},
		{api.ErrKind, "kelpforest: kind"},
		{api.ErrName, "kelpforest: name"},
		{api.ErrNone, "kelpforest: none"},
		{api.ErrExist, "kelpforest: exist"},
		{api.ErrFull, "kelpforest: full"},
		{api.ErrArgs, "kelpforest: args"},
		{api.ErrDeep, "kelpforest: deep"},
	}
}

// P5: the errors have their texts and numbers, bare and with a place.
func TestErrors(t *testing.T) {
	for i, c := range errorsTold() {
		if c.err.Error() != c.text {
			t.Errorf("%q, want %q", c.err.Error(), c.text)
		}
		if code, at := plain.Code(c.err); code != i+1 || at != -1 {
			t.Errorf("%v: code %d at %d, want %d at -1", c.err, code, at, i+1)
		}
		fault := &api.Fault{At: 3, Err: c.err}
		if code, at := plain.Code(fault); code != i+1 || at != 3 {
			t.Errorf("%v: code %d at %d, want %d at 3", c.err, code, at, i+1)
		}
		if fault.Error() != c.text || fault.Unwrap() != c.err {
			t.Errorf("fault of %v tells %q", c.err, fault.Error())
		}
	}
}

// P5: no error, and an error that is none of these.
func TestOtherErrors(t *testing.T) {
	if code, at := plain.Code(nil); code != 0 || at != -1 {
		t.Errorf("nil: code %d at %d", code, at)
	}
	if code, at := plain.Code(errors.New("kelpforest: text")); code != -1 || at != -1 {
		t.Errorf("another one: code %d at %d", code, at)
	}
}
