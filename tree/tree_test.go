package tree_test

import (
	"errors"
	"maps"
	"math/rand"
	"reflect"
	"slices"
	"strconv"
	"strings"
	"testing"

	"kelpforest/api"
	"kelpforest/lex"
	"kelpforest/tree"
	"kelpforest/val"
)

func tokens(t *testing.T, s string) []lex.Token {
	t.Helper()
	l, err := lex.Read(s)
	if err != nil {
		t.Fatalf("Read(%q): %v", s, err)
	}
	return l
}

func parse(t *testing.T, s string) []tree.Fun {
	t.Helper()
	p, err := tree.Parse(tokens(t, s))
	if err != nil {
		t.Fatalf("Parse(%q): %v at %d", s, err, err.(*api.Fault).At)
	}
	return p
}

// fault: that tokens are told as an error at one of them, and nothing beside it.
func fault(t *testing.T, l []lex.Token, at int, want error) {
	t.Helper()
	p, err := tree.Parse(l)
	f, ok := err.(*api.Fault)
	if !ok || f.At != at || f.Err != want || len(p) > 0 {
		t.Errorf("Parse(%q) = %v, %v; want %v at %d", lex.Text(l), p, err, want, at)
		if ok {
			t.Errorf("it is told at %d", f.At)
		}
	}
}

func num(n int) tree.Expr     { return tree.Expr{Kind: "num", Num: n} }
func name(s string) tree.Expr { return tree.Expr{Kind: "name", Name: s} }
func one(op string, a tree.Expr) tree.Expr {
	return tree.Expr{Kind: "one", Name: op, Kids: []tree.Expr{a}}
}
func two(op string, a, b tree.Expr) tree.Expr {
	return tree.Expr{Kind: "two", Name: op, Kids: []tree.Expr{a, b}}
}
func call(f string, kids ...tree.Expr) tree.Expr {
	return tree.Expr{Kind: "call", Name: f, Kids: kids}
}

// expr: the tree of an expression.
func expr(t *testing.T, s string) tree.Expr {
	t.Helper()
	p := parse(t, "fn f() { return "+s+"; }")
	if len(p) != 1 || len(p[0].Body) != 1 || p[0].Body[0].Kind != "return" {
		t.Fatalf("%q: %v", s, p)
	}
	return p[0].Body[0].E
}

// P30, P31: every kind, with its fields and no other.
func TestParseKinds(t *testing.T) {
	got := parse(t, "fn f(a, bb, c) { var x = 1; x = a; if a { print 2; x = bb; } else { return 3; } if c { } while bb { while c { print x; } } return -f(!a, 4 + c, g()); } fn g() { }")
	if len(got) == 2 && len(got[1].Params) == 0 && len(got[1].Body) == 0 {
		got[1].Params, got[1].Body = nil, nil
	}
	want := []tree.Fun{
		{"f", []string{"a", "bb", "c"}, []tree.Stmt{
			{Kind: "var", Name: "x", E: num(1)},
			{Kind: "set", Name: "x", E: name("a")},
			{Kind: "if", E: name("a"), Then: []tree.Stmt{{Kind: "print", E: num(2)}, {Kind: "set", Name: "x", E: name("bb")}}, Else: []tree.Stmt{{Kind: "return", E: num(3)}}},
			{Kind: "if", E: name("c")},
			{Kind: "while", E: name("bb"), Then: []tree.Stmt{{Kind: "while", E: name("c"), Then: []tree.Stmt{{Kind: "print", E: name("x")}}}}},
			{Kind: "return", E: one("-", call("f", one("!", name("a")), two("+", num(4), name("c")), call("g")))},
		}},
		{Name: "g"},
	}
	if !reflect.DeepEqual(got, want) {
		t.Errorf("got %v\nwant %v", got, want)
	}
}

// P31: a program of no function.
func TestParseNothing(t *testing.T) {
	for _, l := range [][]lex.Token{nil, {}} {
		if p, err := tree.Parse(l); len(p) != 0 || err != nil {
			t.Errorf("Parse of nothing: %v, %v", p, err)
		}
	}
}

// P31: numbers, to the greatest that can be read.
func TestParseNumbers(t *testing.T) {
	for _, n := range []int{0, 1, 9, 10, 4096, 1 << 40, 999999999999999999} {
		if got := expr(t, strconv.Itoa(n)); !reflect.DeepEqual(got, num(n)) {
			t.Errorf("%d is %v", n, got)
		}
	}
}

// levels of the ops, as the chapter tells them: the last binds most.
var levels = [][]string{{"==", "!="}, {"<", "<="}, {"|"}, {"^"}, {"&"}, {"<<", ">>"}, {"+", "-"}, {"*", "/", "%"}}

func level(op string) int {
	return slices.IndexFunc(levels, func(l []string) bool { return slices.Contains(l, op) })
}

// P31: the levels are told as the chapter has them, from 1 on, and 0 for what is no op of two.
func TestLevel(t *testing.T) {
	for _, op := range append(val.Ops(), "", "!", "=", ">", "&&", "a", "+ ", "(") {
		if got := tree.Level(op); got != level(op)+1 {
			t.Errorf("Level(%q) = %d", op, got)
		}
	}
}

// P31: of two ops, the one that binds more goes ahead, and the left one where they bind alike.
func TestParseLevels(t *testing.T) {
	a, b, c := name("a"), name("b"), name("c")
	for _, x := range val.Ops() {
		for _, y := range val.Ops() {
			want := two(y, two(x, a, b), c)
			if level(y) > level(x) {
				want = two(x, a, two(y, b, c))
			}
			if got := expr(t, "a "+x+" b "+y+" c"); !reflect.DeepEqual(got, want) {
				t.Errorf("a %s b %s c is %v", x, y, got)
			}
		}
	}
}

// P31: an op ahead of one binds more than all of two.
func TestParseOne(t *testing.T) {
	a, b := name("a"), name("b")
	for _, x := range val.Ops() {
		for _, y := range []string{"-", "!"} {
			for s, want := range map[string]tree.Expr{
				y + "a " + x + " b":           two(x, one(y, a), b),
				"a " + x + " " + y + "b":      two(x, a, one(y, b)),
				y + "(a " + x + " b)":         one(y, two(x, a, b)),
				y + "- !a " + x + " b":        two(x, one(y, one("-", one("!", a))), b),
				y + "f(a " + x + " b)":        one(y, call("f", two(x, a, b))),
				"f(" + y + "a," + y + "b, 1)": call("f", one(y, a), one(y, b), num(1)),
			} {
				if got := expr(t, s); !reflect.DeepEqual(got, want) {
					t.Errorf("%s is %v", s, got)
				}
			}
		}
	}
}

// P32: parentheses leave nothing behind but the tree's shape.
func TestParseParentheses(t *testing.T) {
	a, b, c := name("a"), name("b"), name("c")
	for s, want := range map[string]tree.Expr{
		"(a)":                     a,
		"((((((((a))))))))":       a,
		"(7)":                     num(7),
		"(f((a), (b)))":           call("f", a, b),
		"(f())":                   call("f"),
		"(-(a))":                  one("-", a),
		"(a - b) - c":             two("-", two("-", a, b), c),
		"a - (b - c)":             two("-", a, two("-", b, c)),
		"(a + b) * c":             two("*", two("+", a, b), c),
		"a + (b * c)":             two("+", a, two("*", b, c)),
		"(a == b) == (c)":         two("==", two("==", a, b), c),
		"((a) | ((b))) & (((c)))": two("&", two("|", a, b), c),
	} {
		if got := expr(t, s); !reflect.DeepEqual(got, want) {
			t.Errorf("%s is %v", s, got)
		}
	}
}

// grown: a tree by chance, at most so deep.
func grown(r *rand.Rand, deep int) tree.Expr {
	if deep == 0 {
		return []tree.Expr{num(r.Intn(100)), name("a"), name("b1"), call("f")}[r.Intn(4)]
	}
	switch r.Intn(7) {
	case 0:
		return grown(r, 0)
	case 1:
		return one([]string{"-", "!"}[r.Intn(2)], grown(r, deep-1))
	case 2:
		e := call("g")
		for range 1 + r.Intn(3) {
			e.Kids = append(e.Kids, grown(r, deep-1))
		}
		return e
	}
	return two(val.Ops()[r.Intn(len(val.Ops()))], grown(r, deep-1), grown(r, deep-1))
}

// written: a tree as text, with all parentheses, or with those alone without which it would be another one.
func written(e tree.Expr, all bool) string {
	around := func(kid tree.Expr, is bool) string {
		if all || is {
			return "(" + written(kid, all) + ")"
		}
		return written(kid, all)
	}
	switch e.Kind {
	case "num":
		return strconv.Itoa(e.Num)
	case "name":
		return e.Name
	case "one":
		return e.Name + around(e.Kids[0], e.Kids[0].Kind == "two")
	case "call":
		var l []string
		for _, k := range e.Kids {
			l = append(l, written(k, all))
		}
		return e.Name + "(" + strings.Join(l, ",") + ")"
	}
	a, b := e.Kids[0], e.Kids[1]
	return around(a, a.Kind == "two" && level(a.Name) < level(e.Name)) + " " + e.Name + " " + around(b, b.Kind == "two" && level(b.Name) <= level(e.Name))
}

// P31, P32: a tree is read from either text of it.
func TestParseGrown(t *testing.T) {
	r := rand.New(rand.NewSource(1))
	for range 3000 {
		want := grown(r, 4)
		for _, all := range []bool{false, true} {
			s := written(want, all)
			if got := expr(t, s); !reflect.DeepEqual(got, want) {
				t.Fatalf("%s is %v, want %v", s, got, want)
			}
		}
	}
}

// P31: a long row of ops is no nest.
func TestParseLong(t *testing.T) {
	want := name("a")
	for range 200 {
		want = two("-", want, name("a"))
	}
	if got := expr(t, "a"+strings.Repeat(" - a", 200)); !reflect.DeepEqual(got, want) {
		t.Error("a - a - .. goes not to the left")
	}
	p := parse(t, "fn f() { "+strings.Repeat("a = (1); ", 100)+strings.Repeat("if -1 { } ", 40)+"}")
	if len(p[0].Body) != 140 {
		t.Errorf("%d statements", len(p[0].Body))
	}
}

// grammar, as the chapter tells it, but for levels; its words in capitals are rules; out is the end of what counts for MaxNest.
var grammar = map[string][]string{
	"PROGRAM": {"", "FUN PROGRAM"},
	"FUN":     {"fn name ( PARAMS ) BLOCK"},
	"PARAMS":  {"", "name NAMES"},
	"NAMES":   {"", ", name NAMES"},
	"BLOCK":   {"{ STMTS } out"},
	"STMTS":   {"", "STMT STMTS"},
	"STMT":    {"var name = EXPR ;", "name = EXPR ;", "if EXPR BLOCK ELSE", "while EXPR BLOCK", "return EXPR ;", "print EXPR ;"},
	"ELSE":    {"", "else BLOCK"},
	"EXPR":    {"ONE MORE"},
	"MORE":    {"", "OP ONE MORE"},
	"OP":      val.Ops(),
	"ONE":     {"- ONE out", "! ONE out", "number", "name", "name ( ARGS ) out", "( EXPR ) out"},
	"ARGS":    {"", "EXPR EXPRS"},
	"EXPRS":   {"", ", EXPR EXPRS"},
	"out":     {""},
}

// ahead: all rests of a program behind their first token, by what starts them (nothing: a program may end here).
func ahead(rests []string) map[string][]string {
	found := map[string][]string{}
	seen := map[string]bool{}
	for len(rests) > 0 {
		rest := rests[0]
		rests = rests[1:]
		if seen[rest] {
			continue
		}
		seen[rest] = true
		first, more, _ := strings.Cut(rest, " ")
		rule, ok := grammar[first]
		if !ok {
			found[first] = append(found[first], more)
		}
		for _, r := range rule {
			rests = append(rests, strings.TrimSpace(r+" "+more))
		}
	}
	return found
}

// deep: in how many blocks and expressions all of these rests lie.
func deep(rests []string) int {
	least := len(rests[0])
	for _, r := range rests {
		least = min(least, strings.Count(" "+r, " out"))
	}
	return least
}

// said: what a token is in the grammar.
func said(tok lex.Token) string {
	digits := tok.Text != "" && strings.Trim(tok.Text, "0123456789") == ""
	letters := tok.Text != "" && strings.Trim(tok.Text, "abcdefghijklmnopqrstuvwxyz") == ""
	switch {
	case tok.Kind == "name", tok.Kind == "number" && digits:
		return tok.Kind
	case tok.Kind == "word" && letters, tok.Kind == "sign" && tok.Text != "" && !letters:
		return tok.Text
	}
	return "none"
}

// firstWrong: the number of the first token with which no program goes on, or with which it is too deep; no error: it is a program.
func firstWrong(l []lex.Token) (int, error) {
	rests := []string{"PROGRAM"}
	for i, tok := range l {
		rests = ahead(rests)[said(tok)]
		if len(rests) == 0 {
			return i, api.ErrText
		}
		if deep(rests) > api.MaxNest {
			return i, api.ErrDeep
		}
	}
	if _, done := ahead(rests)[""]; !done {
		return len(l), api.ErrText
	}
	return 0, nil
}

func asGrammar(t *testing.T, l []lex.Token) {
	t.Helper()
	at, want := firstWrong(l)
	if want != nil {
		fault(t, l, at, want)
		return
	}
	if p, err := tree.Parse(l); err != nil {
		t.Errorf("Parse(%q) = %v, %v; want no error", lex.Text(l), p, err)
	}
}

const vocabulary = "fn var if else while return print a 7 << >> <= == != + - * / % & | ^ < ! = ( ) { } , ;"

// P31: programs with a token more, less or changed, and their beginnings, are told at the first token with which none goes on.
func TestParseFirstWrong(t *testing.T) {
	words := tokens(t, vocabulary)
	for _, s := range []string{
		"fn f(a, b) { var x = 1 + f(a, -b); x = (x) ; }",
		"fn f() { if a { } else { print 1; } while !b { return g(); } } fn g() { }",
		"fn f(a) { if f(1) { if 2 { } } }",
	} {
		l := tokens(t, s)
		for i := range len(l) + 1 {
			asGrammar(t, l[:i])
			for _, w := range words {
				asGrammar(t, slices.Insert(slices.Clone(l), i, w))
				if i < len(l) {
					asGrammar(t, slices.Concat(l[:i], []lex.Token{w}, l[i+1:]))
				}
			}
			if i < len(l) {
				asGrammar(t, slices.Delete(slices.Clone(l), i, i+1))
			}
		}
	}
}

// P31: every row of up to two tokens, alone, as statements and within an expression.
func TestParseAllShort(t *testing.T) {
	words := tokens(t, vocabulary)
	rows := [][]lex.Token{{}}
	for i := 0; i < len(rows); i++ {
		asGrammar(t, rows[i])
		for _, around := range [][2]string{{"fn", ""}, {"fn f", ""}, {"fn f ( a", ") { }"}, {"fn f ( ) {", "}"}, {"fn f ( ) {", "; }"}, {"fn f ( ) { if a { }", "{ } }"}, {"fn f ( ) { print", "; }"}, {"fn f ( ) { print f ( a", ") ; }"}} {
			asGrammar(t, slices.Concat(tokens(t, around[0]), rows[i], tokens(t, around[1])))
		}
		for _, w := range words {
			if len(rows[i]) < 2 {
				rows = append(rows, append(slices.Clone(rows[i]), w))
			}
		}
	}
}

// walked: tokens by chance, each one with which a program goes on, rather those that go deeper.
func walked(r *rand.Rand, size int) []lex.Token {
	var l []lex.Token
	rests := []string{"PROGRAM"}
	for range size {
		next := ahead(rests)
		delete(next, "")
		firsts := slices.Sorted(maps.Keys(next))
		for _, f := range firsts {
			if strings.Contains("if while { ( - !", f) {
				firsts = append(firsts, f, f, f)
			}
		}
		first := firsts[r.Intn(len(firsts))]
		rests = next[first]
		kind, text := "sign", first
		switch first {
		case "name":
			kind, text = "name", "a"
		case "number":
			kind, text = "number", "7"
		case "fn", "var", "if", "else", "while", "return", "print":
			kind = "word"
		}
		l = append(l, lex.Token{Kind: kind, Text: text})
	}
	return l
}

// P31: what is walked by chance, most of it in the end too deep, and with a token changed.
func TestParseWalked(t *testing.T) {
	r := rand.New(rand.NewSource(2))
	words := tokens(t, vocabulary)
	found := map[error]int{}
	for range 1500 {
		l := walked(r, 1+r.Intn(80))
		asGrammar(t, l)
		_, err := firstWrong(l)
		found[err]++
		l[r.Intn(len(l))] = words[r.Intn(len(words))]
		asGrammar(t, l)
	}
	if found[api.ErrText] < 100 || found[api.ErrDeep] < 100 {
		t.Errorf("walked too little: %v", found)
	}
}

// P31: MaxNest is well, and one more is told at its token.
func TestParseDeep(t *testing.T) {
	for open, end := range map[string]string{"(": ")", "-": "", "!": "", "f(": ")", "a + (": ")"} {
		text := func(n int) string {
			return "fn f(a) { return " + strings.Repeat(open, n) + "1" + strings.Repeat(end, n) + "; }"
		}
		parse(t, text(11))
		at := len(tokens(t, "fn f(a) { return "+strings.Repeat(open, 12))) - 1
		for _, n := range []int{12, 13, 20} {
			fault(t, tokens(t, text(n)), at, api.ErrDeep)
		}
	}
	for _, open := range []string{"if 1 {", "while 1 {", "if 1 { } else {", "if 1 { } while f((-1)) {"} {
		text := func(n int) string { return "fn f(a) { " + strings.Repeat(open, n) + strings.Repeat("}", n+1) }
		for n := range 13 {
			asGrammar(t, tokens(t, text(n)))
		}
	}
}

// P31: blocks and expressions are counted together, and what was left is not counted any more.
func TestParseDeepTogether(t *testing.T) {
	for n := 1; n <= 12; n++ {
		blocks, room := "fn f(a) { "+strings.Repeat("if 1 { ", n-1), 12-n
		inside := "print " + strings.Repeat("-", room) + "1; print " + strings.Repeat("(", room) + "a" + strings.Repeat(")", room) + "; "
		whole := blocks + inside + inside + strings.Repeat("}", n)
		parse(t, whole+whole)
		for _, open := range []string{"(", "-", "!", "f("} {
			l := tokens(t, blocks+inside+"print "+strings.Repeat("!", room)+open)
			fault(t, l, len(l)-1, api.ErrDeep)
		}
	}
	l := tokens(t, "fn f(a) { "+strings.Repeat("while 1 { ", 11)+"a = 1; if a {")
	fault(t, l, len(l)-1, api.ErrDeep)
}

// P31: of what is wrong and what is too deep, what comes ahead is told.
func TestParseDeepOrWrong(t *testing.T) {
	text := "fn f() { return " + strings.Repeat("(", 12)
	for _, s := range []string{"", "1", ") ) )", "fn", ";", "1 1", "("} {
		fault(t, tokens(t, text+s), 17, api.ErrDeep)
	}
	fault(t, tokens(t, strings.Replace(text, "return", "return return", 1)), 6, api.ErrText)
	fault(t, tokens(t, strings.TrimSuffix(text, "(")), 17, api.ErrText)
	fault(t, tokens(t, strings.TrimSuffix(text, "(")+")"), 17, api.ErrText)
	fault(t, tokens(t, "fn f() { } "+text), 23, api.ErrDeep)
}

// P31: tokens are taken by Kind and Text alone.
func TestParseHandMade(t *testing.T) {
	l := tokens(t, "fn f(a) { return a + 1; }")
	want, _ := tree.Parse(l)
	for i := range l {
		l[i].At = 77 - i*i
	}
	if got, err := tree.Parse(l); err != nil || !reflect.DeepEqual(got, want) {
		t.Errorf("with other places: %v, %v", got, err)
	}
	for i := range l {
		for _, kind := range []string{"", "fn", "Name", "name", "word", "number", "sign"} {
			other := slices.Clone(l)
			other[i].Kind = kind
			asGrammar(t, other)
		}
		for _, text := range []string{"", "@", " ", "fn ", "(("} {
			other := slices.Clone(l)
			other[i].Text = text
			if l[i].Kind != "name" {
				fault(t, other, i, api.ErrText)
			}
		}
	}
	fault(t, make([]lex.Token, 3), 0, api.ErrText)
}

// P31: a number that is none, or none of an int.
func TestParseNoNumber(t *testing.T) {
	l := tokens(t, "fn f() { return 1; }")
	for _, text := range []string{"", "a", "-1", "+1", "1 ", "1_0", "0x1", "1.0", "9223372036854775808", "99999999999999999999999"} {
		l[6].Text = text
		fault(t, l, 6, api.ErrText)
	}
}

// P31: an error is asked for by errors.Is and errors.As.
func TestParseErrorWraps(t *testing.T) {
	_, err := tree.Parse(tokens(t, "fn 1"))
	var f *api.Fault
	if !errors.Is(err, api.ErrText) || !errors.As(err, &f) || f.At != 1 {
		t.Errorf("Parse: %v", err)
	}
}

const everyList = "fn f(a, b, c) { var x = f(1, 2, 3); if a { x = 1; x = 2; x = 3; } else { print 4; print 5; print 6; } while f(1, -2 + x, g()) { return 3; } return x; } fn g() { print 1; }"

// P4: what is handed over stays, also behind its length, where it is not read.
func TestParseOnlyReads(t *testing.T) {
	l := tokens(t, everyList+"}")
	kept := slices.Clone(l)
	if _, err := tree.Parse(l[:len(l)-1]); err != nil {
		t.Errorf("Parse: %v", err)
	}
	if !slices.Equal(l, kept) {
		t.Error("Parse changed its list")
	}
	got, _ := tree.Parse(l[:len(l)-1])
	clear(l)
	if !reflect.DeepEqual(got, parse(t, everyList)) {
		t.Error("a later change of the tokens shows")
	}
}

// filled: writes behind each list's length, so that it shows where two share memory.
func filled(l []tree.Stmt) {
	for _, s := range l {
		filledExpr(s.E)
		filled(s.Then)
		filled(s.Else)
	}
	_ = append(l, tree.Stmt{Kind: "none"}, tree.Stmt{Kind: "none"})
}

func filledExpr(e tree.Expr) {
	for _, k := range e.Kids {
		filledExpr(k)
	}
	_ = append(e.Kids, name("none"), name("none"))
}

// P4: an answer is new memory, and no two lists of it share any.
func TestParseNewMemory(t *testing.T) {
	l := tokens(t, everyList)
	got, _ := tree.Parse(l)
	_ = append(got, tree.Fun{Name: "none"})
	for _, f := range got {
		_ = append(f.Params, "none", "none")
		filled(f.Body)
	}
	again, _ := tree.Parse(l)
	if !reflect.DeepEqual(got, again) {
		t.Error("lists of an answer share memory")
	}
	got[0].Params[0], got[0].Body[0].Name, got[0].Body[0].E.Kids[0].Num = "z", "z", 9
	if !reflect.DeepEqual(again, parse(t, everyList)) {
		t.Error("two answers share memory")
	}
}
