package drive_test

import (
	"errors"
	"fmt"
	"math/rand"
	"reflect"
	"strconv"
	"strings"
	"testing"

	"kelpforest/api"
	"kelpforest/check"
	"kelpforest/drive"
	"kelpforest/emit"
	"kelpforest/lex"
	"kelpforest/show"
	"kelpforest/val"
)

// writer of texts by chance, of programs that are mostly well.
type writer struct {
	*rand.Rand
	strings.Builder
	params []int // of the functions
	at     int   // which of them is being written
	vars   []string
	made   int // variables of it till now
	most   int // bytes
}

func name(k int) string { return "f" + string(rune('a'+k)) }

func (w *writer) pick(l ...string) string { return l[w.Intn(len(l))] }

// write, with blanks that make no difference.
func (w *writer) write(l ...string) {
	for _, s := range l {
		w.WriteString(s + w.pick("", " ", " ", "\n", "\t"))
	}
}

func (w *writer) number() string {
	switch w.Intn(8) {
	case 0:
		return w.pick("2147483647", "2147483648", "4294967295", "4294967296", "999999999999999999", "63", "64")
	case 1:
		return strconv.Itoa(w.Intn(1e18) >> w.Intn(60))
	}
	return strconv.Itoa(w.Intn(6))
}

// expr by its text alone, so that it is read by levels.
func (w *writer) expr(deep int) string {
	switch n := w.Intn(12); {
	case deep == 0 && n < 3 || n < 1 || len(w.vars) == 0 && n < 4:
		return w.number()
	case (deep == 0 || n < 4) && len(w.vars) > 0:
		return w.pick(w.vars...)
	case n < 5:
		return w.pick("-", "!") + w.single(deep)
	case n < 6 && deep > 0:
		return "(" + w.expr(deep-1) + ")"
	case n < 9 && deep > 0:
		return w.single(deep) + w.pick("", " ") + w.pick(val.Ops()...) + w.pick("", " ") + w.single(deep)
	case deep > 0:
		return w.call(deep)
	}
	return w.number()
}

// single: nothing that a sign ahead of it, or beside it, would be read into.
func (w *writer) single(deep int) string {
	if deep == 0 {
		return w.number()
	}
	e := w.expr(deep - 1)
	if w.Intn(3) > 0 {
		return "(" + e + ")"
	}
	return e
}

// call mostly a function behind this one, for with any of them most programs are deep.
func (w *writer) call(deep int) string {
	least := w.at + 1
	if w.Intn(6) == 0 {
		least = 0
	}
	if least == len(w.params) {
		return w.expr(deep - 1)
	}
	to := least + w.Intn(len(w.params)-least)
	var args []string
	for range w.params[to] {
		args = append(args, w.expr(deep-1))
	}
	return name(to) + "(" + strings.Join(args, w.pick(",", ", ")) + ")"
}

func (w *writer) block(deep, most int) {
	around := len(w.vars)
	w.write("{")
	for range w.Intn(most + 1) {
		if w.Len() < w.most {
			w.stmt(deep)
		}
	}
	w.write("}")
	w.vars = w.vars[:around]
}

func (w *writer) stmt(deep int) {
	e := w.expr(w.Intn(3))
	switch n := w.Intn(20); {
	case n < 3 && w.made < api.MaxVars:
		v := "v" + string(rune('a'+w.made))
		w.made++
		w.write("var "+v, "=", e, ";")
		w.vars = append(w.vars, v)
	case n < 9 && len(w.vars) > 0:
		w.write(w.pick(w.vars...), "=", e, ";")
	case n < 12 && deep > 0:
		w.write("if " + e)
		w.block(deep-1, 4)
		if w.Intn(2) == 0 {
			w.write("else")
			w.block(deep-1, 4)
		}
	case n < 13 && deep > 0:
		w.write("while " + e)
		w.block(deep-1, 4)
	case n < 16 && deep > 0 && len(w.vars) > 0:
		w.counted(w.pick(w.vars...), deep)
	case n == 16 && w.Intn(3) == 0:
		w.write("return "+e, ";")
	default:
		w.write("print "+e, ";")
	}
}

// counted: a loop that mostly comes to its end.
func (w *writer) counted(v string, deep int) {
	w.write("while 0 <"+v, "{ "+v, "=", v, "- 1 ;")
	w.write("if 1")
	w.block(deep-1, 4)
	w.write("}")
}

func (w *writer) program() string {
	w.Reset()
	w.most = []int{200, 350, 800, 2500}[w.Intn(4)]
	w.params = make([]int, 1+w.Intn(4))
	for k := range w.params {
		w.params[k] = w.Intn(api.MaxParams + 1)
	}
	for k, many := range w.params {
		w.at, w.made = k, many
		w.vars = append([]string{}, []string{"a", "b", "c", "d"}[:many]...)
		w.write("fn "+name(k), "("+strings.Join(w.vars, ","), ")")
		w.block(1+w.Intn(5), 2+w.Intn(12))
	}
	return w.String()
}

// P140 to P142: programs by chance do at both levels as they do as they stand, and those to 400 bytes all go in.
func TestByChance(t *testing.T) {
	w := &writer{Rand: rand.New(rand.NewSource(140))}
	seen := map[string]int{}
	for range 1500 {
		s := w.program()
		p, err := parse(s)
		if err != nil || check.Program(p) != nil {
			seen["wrong"]++
			continue
		}
		zero, err := drive.Compile(s, 0)
		if errors.Is(err, api.ErrFull) && len(s) > 400 {
			seen["full"]++
			continue
		}
		one := compiled(t, s, 1)
		note(seen, s, zero, one)
		for range 5 {
			k := w.Intn(len(p))
			args := make([]int, len(p[k].Params))
			for i := range args {
				args[i] = w.Intn(9) - 2
			}
			o := alike(t, s, p[k].Name, args, []int{w.Intn(6), w.Intn(60), w.Intn(600), api.MaxTicks}[w.Intn(4)])
			seen[o.How]++
			if o.Ticks > 8 && len(o.Out) > 4 {
				seen["long "+o.How]++
			}
		}
	}
	for _, kind := range []string{"done", "tired", "deep", "loud", "long done", "long tired", "long deep", "short", "long", "with slots", "better"} {
		if seen[kind] < 50 {
			t.Errorf("too few that are %s: %v", kind, seen)
		}
	}
}

// note of what kinds a text and its images are.
func note(seen map[string]int, s string, zero, one emit.Image) {
	if len(s) <= 400 {
		seen["short"]++
	} else {
		seen["long"]++
	}
	for _, f := range one.Funs {
		if f.Slots > 0 {
			seen["with slots"]++
		}
	}
	if drive.Size(one) < drive.Size(zero) {
		seen["better"]++
	}
}

// error of a text, as lex, tree and check have it.
func errorOf(s string) error {
	p, err := parse(s)
	if err != nil {
		return err
	}
	return check.Program(p)
}

// spoil a text: a piece of it is gone, or twice, or something stands in it.
func (w *writer) spoil(s string) string {
	from := w.Intn(len(s))
	to := min(len(s), from+w.Intn(6))
	switch w.Intn(3) {
	case 0:
		return s[:from] + s[to:]
	case 1:
		return s[:to] + s[from:]
	}
	return s[:from] + w.pick("a", "fc(", ")", "}", "{", ";", "var ", "if ", "0", "@", "\xff", "va", "\x00", ",", "<") + s[from:]
}

// confuse a text: a name of it is another one of them.
func (w *writer) confuse(s string) string {
	l, err := lex.Read(s)
	if err != nil {
		return s
	}
	for {
		from, to := w.Intn(len(l)), w.Intn(len(l))
		if l[from].Kind == "name" && l[to].Kind == "name" {
			l[to] = l[from]
			return lex.Text(l)
		}
	}
}

// P1, P140, P141: texts that may be wrong are told as lex, tree and check tell them.
func TestSpoilt(t *testing.T) {
	w := &writer{Rand: rand.New(rand.NewSource(141))}
	seen := map[string]int{}
	for range 6000 {
		s := w.program()
		if w.Intn(2) == 0 {
			s = w.spoil(s)
		} else {
			s = w.confuse(s)
		}
		level := w.Intn(2)
		p, parseErr := parse(s)
		if u, err := drive.Show(s); !reflect.DeepEqual(err, parseErr) || u != show.Program(p) {
			t.Fatalf("%q, %v; want %v\n%q", u, err, parseErr, s)
		}
		want := errorOf(s)
		if want != nil {
			seen[want.Error()]++
			wrong(t, fmt.Sprintf("%q", s), s, level, want)
			continue
		}
		seen["well"]++
		if _, err := drive.Compile(s, level); err != nil && (err != api.ErrFull || len(s) <= 400) {
			t.Fatalf("%v\n%q", err, s)
		}
	}
	for _, kind := range []string{"well", api.ErrText.Error(), api.ErrNone.Error(), api.ErrExist.Error(), api.ErrArgs.Error()} {
		if seen[kind] < 50 {
			t.Errorf("too few that are %s: %v", kind, seen)
		}
	}
}

// P1: texts of any bytes, and of any words, come to an end.
func TestAnyText(t *testing.T) {
	w := &writer{Rand: rand.New(rand.NewSource(142))}
	words := strings.Fields("fn var if else while return print f g a b 0 7 << >> <= == != + - * / % & | ^ < ! = ( ) { } , ;")
	for range 4000 {
		b := make([]byte, w.Intn(40))
		w.Read(b)
		l := make([]lex.Token, w.Intn(60))
		for i := range l {
			l[i].Text = w.pick(words...)
		}
		for _, s := range []string{string(b), lex.Text(l), "fn f(a) { " + lex.Text(l) + " }"} {
			if want := errorOf(s); want != nil {
				wrong(t, fmt.Sprintf("%q", s), s, w.Intn(2), want)
			}
		}
	}
}
