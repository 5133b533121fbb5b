package drive_test

import (
	"strings"
	"testing"

	"kelpforest/api"
	"kelpforest/drive"
	"kelpforest/graph"
	"kelpforest/run"
)

// allVars: the head of a function with as many variables as there may be, not closed.
const allVars = "fn main(a,b,c,d){var e=1;var f=2;var g=3;var h=4;var i=5;var j=6;var k=7;var l=8;"

// turned: each variable becomes the next one.
const turned = "a=l;b=a;c=b;d=c;e=d;f=e;g=f;h=g;i=h;j=i;k=j;l=k;"

// summed: all variables are asked for.
const summed = "return a-b*c+d*e-f+g*h-i+j*k-l;"

// nested: something in so many of these.
func nested(open, in string, many int) string {
	return strings.Repeat(open, many) + in + strings.Repeat("}", many)
}

// alike: that a text does at both levels as it does as it stands.
func alike(t *testing.T, s, name string, args []int, ticks int) api.Outcome {
	t.Helper()
	want, err := run.Run(parsed(t, s), name, args, ticks)
	if err != nil {
		t.Fatalf("%v\n%s", err, s)
	}
	for level := range 2 {
		if o, err := drive.Run(s, level, name, args, ticks); err != nil || told(o) != told(want) {
			t.Fatalf("level %d, %s of %v with %d ticks: %s, %v; want %s\n%s", level, name, args, ticks, told(o), err, told(want), s)
		}
	}
	return want
}

// P140: texts to 400 bytes, of what needs much room: they all go in.
func TestFits(t *testing.T) {
	const most = 400
	fill := func(head, piece, foot string) string {
		return head + strings.Repeat(piece, (most-len(head)-len(foot))/len(piece)) + foot
	}
	for _, s := range []string{
		allVars + nested("while a{", turned, api.MaxNest-1) + summed + "}",
		allVars + nested("while c{", turned, 5) + nested("while d{", turned, 5) + summed + "}",
		allVars + nested("if a{while b{", turned+strings.Repeat("}a=b;", 5), 5) + summed + "}",
		allVars + strings.Repeat("if a{", api.MaxNest-1) + turned + strings.Repeat("}b=c;", api.MaxNest-1) + summed + "}",
		allVars + "while a{" + turned + nested("if a{b=c;}else{", "", 9) + "}" + summed + "}",
		fill(allVars+"while a{"+turned, "if a{}else{}", "}"+summed+"}"),
		fill(allVars, "while a{}", summed+"}"),
		fill(allVars, "if a{b=a;}", summed+"}"),
		fill(allVars, "print-a;", summed+"}"),
		fill(allVars+"return a", "+main(a,b,c,d)", ";}"),
		fill(allVars+"return a", "--a", ";}"),
		fill("fn main(){", "print 99999999999;", "}"),
		fill("fn main(a,b,c,d){", "while b{a=b;}", "}"),
	} {
		if len(s) > most {
			t.Fatalf("%d bytes\n%s", len(s), s)
		}
		args := []int{3, -1, 2, 0}[:len(parsed(t, s)[0].Params)]
		for _, ticks := range []int{1, 7, 100} {
			alike(t, s, "main", args, ticks)
		}
	}
}

// great: a function of some hundred nodes, and one more of each of more.
func great(more int) string {
	loops := strings.Repeat(nested("while a{", turned, api.MaxNest-1), 5)
	return allVars + loops + strings.Repeat("b=b-c;", more) + summed + "}"
}

// greatest of those functions that have not too many nodes.
func greatest(t *testing.T) int {
	t.Helper()
	for more := 0; ; more++ {
		g, err := graph.Build(parsed(t, great(more))[0])
		if err != nil {
			t.Fatal(more, err)
		}
		if len(g.Nodes) == api.MaxNodes {
			return more
		}
	}
}

// P140: one node too many is told, without a place, and with nothing beside.
func TestFull(t *testing.T) {
	most := greatest(t)
	const ahead = "fn f() { return 1; } "
	for more := range most + 20 {
		s := great(more)
		for level := range 2 {
			if more > most {
				wrong(t, "too many nodes", s, level, api.ErrFull)
				wrong(t, "too many nodes, of the second function", ahead+s, level, api.ErrFull)
			} else {
				compiled(t, ahead+s, level)
			}
		}
	}
	s := great(most + 1)
	wrong(t, "a wrong level, of what is too great", s, 2, api.ErrBound)
	wrong(t, "not well, behind what is too great", s+"fn f() { return a; }", 1, at(1, api.ErrNone))
	if u, err := drive.Show(s); err != nil || u == "" {
		t.Error(err)
	}
}

// P142: what just goes in does as it does as it stands.
func TestGreatest(t *testing.T) {
	s := great(greatest(t))
	for _, args := range [][]int{{0, 1, 2, 3}, {1, 2, 3, 4}, {-5, 0, 7, 0}} {
		for _, ticks := range []int{1, 5, 44, 45, 46, 600} {
			alike(t, s, "main", args, ticks)
		}
	}
}
