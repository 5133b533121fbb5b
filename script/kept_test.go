package script

import "testing"

// P160: what each line leaves behind; that a level is another one, no answer tells.
func TestKept(t *testing.T) {
	s := start()
	for _, c := range []struct {
		line string
		want script
	}{
		{"what", script{"", 1, 1000}},
		{"add fn", script{"fn\n", 1, 1000}},
		{"level 0", script{"fn\n", 0, 1000}},
		{"level 2", script{"fn\n", 0, 1000}},
		{"ticks 7", script{"fn\n", 0, 7}},
		{"ticks 5001", script{"fn\n", 0, 7}},
		{"add  f(a)", script{"fn\n f(a)\n", 0, 7}},
		{"add", script{"fn\n f(a)\n", 0, 7}},
		{"add ", script{"fn\n f(a)\n\n", 0, 7}},
		{"show", script{"fn\n f(a)\n\n", 0, 7}},
		{"mach f 1", script{"fn\n f(a)\n\n", 0, 7}},
		{"clear", script{"", 0, 7}},
		{"level 1", script{"", 1, 7}},
		{"ticks 0", script{"", 1, 0}},
		{"clear", script{"", 1, 0}},
	} {
		if _, err := s.do(c.line); *s != c.want {
			t.Errorf("%q: %+v, %v; want %+v", c.line, *s, err, c.want)
		}
	}
}
