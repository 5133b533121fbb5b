package lex_test

import (
	"errors"
	"regexp"
	"slices"
	"strings"
	"testing"

	"kelpforest/api"
	"kelpforest/lex"
)

func read(t *testing.T, s string) []lex.Token {
	t.Helper()
	l, err := lex.Read(s)
	if err != nil {
		t.Fatalf("Read(%q): %v", s, err)
	}
	return l
}

// fault: that a text is told as ErrText at a byte, and nothing beside it.
func fault(t *testing.T, s string, at int) {
	t.Helper()
	l, err := lex.Read(s)
	f, ok := err.(*api.Fault)
	if !ok || f.At != at || f.Err != api.ErrText || len(l) > 0 {
		t.Errorf("Read(%q) = %v, %v; want ErrText at %d", s, l, err, at)
	}
}

// bare: that a text is told as an error without a place, and nothing beside it.
func bare(t *testing.T, s string, want error) {
	t.Helper()
	if l, err := lex.Read(s); err != want || len(l) > 0 {
		t.Errorf("Read of %d bytes: %d tokens, %v; want %v", len(s), len(l), err, want)
	}
}

// P20: a program, with kinds, texts and places.
func TestReadProgram(t *testing.T) {
	got := read(t, "fn main(a1) {\n\tvar s = 0; \n if a1<=10 { print -s; } else { return !s>>1; }\n}\n")
	want := []lex.Token{
		{"word", "fn", 0}, {"name", "main", 3}, {"sign", "(", 7}, {"name", "a1", 8}, {"sign", ")", 10}, {"sign", "{", 12},
		{"word", "var", 15}, {"name", "s", 19}, {"sign", "=", 21}, {"number", "0", 23}, {"sign", ";", 24},
		{"word", "if", 28}, {"name", "a1", 31}, {"sign", "<=", 33}, {"number", "10", 35}, {"sign", "{", 38},
		{"word", "print", 40}, {"sign", "-", 46}, {"name", "s", 47}, {"sign", ";", 48}, {"sign", "}", 50},
		{"word", "else", 52}, {"sign", "{", 57}, {"word", "return", 59}, {"sign", "!", 66}, {"name", "s", 67},
		{"sign", ">>", 68}, {"number", "1", 70}, {"sign", ";", 71}, {"sign", "}", 73}, {"sign", "}", 75},
	}
	if !slices.Equal(got, want) {
		t.Errorf("got %v\nwant %v", got, want)
	}
}

// P20: a text of nothing, or of what stands between tokens, has none.
func TestReadNothing(t *testing.T) {
	for _, s := range []string{"", " ", "\t", "\n", " \t\n \n\t "} {
		if l := read(t, s); len(l) != 0 {
			t.Errorf("Read(%q) = %v", s, l)
		}
	}
}

// P20: each kind alone, at its edges.
func TestReadOne(t *testing.T) {
	for kind, texts := range map[string]string{
		"word":   "fn var if else while return print",
		"name":   "a z az a0 z9 abcdefgh a1234567 fnx iff vars ifelse f fn1 els elsee whil while1 returns prin prints",
		"number": "0 1 9 10 100 7 999999999999999999 100000000000000000",
		"sign":   "<< >> <= == != + - * / % & | ^ < ! = ( ) { } , ;",
	} {
		for _, s := range strings.Fields(texts) {
			if got, want := read(t, "\t"+s+"\n"), (lex.Token{Kind: kind, Text: s, At: 1}); len(got) != 1 || got[0] != want {
				t.Errorf("Read(%q) = %v, want %v", s, got, want)
			}
		}
	}
}

// P20: none between, where two would not become another one; where two go, two.
func TestReadClose(t *testing.T) {
	for s, want := range map[string]string{
		"a<<=b":     "a << = b",
		"a<<<b":     "a << < b",
		"a<<<=b":    "a << <= b",
		"a<=<b":     "a <= < b",
		"a===b":     "a == = b",
		"a!==b":     "a != = b",
		"a=!=b":     "a = != b",
		"a=!b":      "a = ! b",
		"!!a":       "! ! a",
		"a>>=b":     "a >> = b",
		"a>>>>b":    "a >> >> b",
		"a<-1":      "a < - 1",
		"a--1":      "a - - 1",
		"a&&b||c":   "a & & b | | c",
		"//a":       "/ / a",
		"f(a,b)":    "f ( a , b )",
		"if(a){}":   "if ( a ) { }",
		"1+2":       "1 + 2",
		"a1=b2%10;": "a1 = b2 % 10 ;",
		"< <":       "< <",
		"= =":       "= =",
		"! =":       "! =",
		"fn main":   "fn main",
		"fnmain":    "fnmain",
		"if1":       "if1",
		"0 1":       "0 1",
	} {
		if got := lex.Text(read(t, s)); got != want {
			t.Errorf("%q is read as %q, want %q", s, got, want)
		}
	}
}

// P20: what is none of these, at its first byte.
func TestReadWrong(t *testing.T) {
	for s, at := range map[string]int{
		"@": 0, "a @": 2, "a@": 1, "A": 0, "aB": 1, "a_b": 1, "a.b": 1, "a\rb": 1, "\r\n": 0, "a\v": 1, "a\f": 1, "é": 0, "aé": 1,
		"a\u00a0b": 1, "\x00": 0, "a\x00": 1, "\xff": 0, "\"a\"": 0, "'": 0, "a[0]": 1, "a ~b": 2, "a ? b : c": 2, "a:b": 1, "#": 0, "$a": 0, "\\": 0, "`": 0,
		">": 0, "a > b": 2, "a>b": 1, "a>=b": 1, "a> >b": 1, "a>>>b": 3, "a>>>=b": 3,
		"abcdefghi": 0, "  abcdefghi": 2, "a1234567890": 0, "x abcdefgh1 @": 2,
		"00": 0, "01": 0, "a 007": 2, "1234567890123456789": 0, "0000000000000000000": 0, "a=1234567890123456789;": 2,
		"1a": 0, "12x": 0, "a 0x1": 2, "1fn": 0, "1if": 0, "123456789012345678a": 0,
		"1A": 1, "1_": 1, "1.5": 1, "1>2": 1,
	} {
		fault(t, s, at)
	}
}

// P20: every byte alone, and all pairs of bytes, as a pattern of all tokens reads them.
func TestReadAllPairs(t *testing.T) {
	for a := range 256 {
		asPattern(t, string([]byte{byte(a)}))
		for b := range 256 {
			asPattern(t, string([]byte{byte(a), byte(b)}))
		}
	}
}

// P20: all texts of a few bytes that lie close to each other, likewise.
func TestReadAllShort(t *testing.T) {
	texts := []string{""}
	for range 5 {
		var more []string
		for _, s := range texts {
			for _, b := range "f<>=!0 1@" {
				more = append(more, s+string(b))
				asPattern(t, s+string(b))
			}
		}
		texts = more
	}
}

var (
	between = regexp.MustCompile(`^[ \t\n]+`)
	token   = regexp.MustCompile(`^(?:([a-z][a-z0-9]*)|([0-9]+[a-z]?)|(<<|>>|<=|==|!=|[-+*/%&|^<!=(){},;]))`)
	number  = regexp.MustCompile(`^(?:0|[1-9][0-9]{0,17})$`)
	word    = regexp.MustCompile(`^(?:fn|var|if|else|while|return|print)$`)
)

func asPattern(t *testing.T, s string) {
	t.Helper()
	var want []lex.Token
	for at := 0; at < len(s); {
		if skip := between.FindString(s[at:]); skip != "" {
			at += len(skip)
			continue
		}
		m := token.FindStringSubmatch(s[at:])
		kind := "sign"
		switch {
		case m == nil, len(m[1]) > 8, m[2] != "" && !number.MatchString(m[2]):
			fault(t, s, at)
			return
		case word.MatchString(m[1]):
			kind = "word"
		case m[1] != "":
			kind = "name"
		case m[2] != "":
			kind = "number"
		}
		want = append(want, lex.Token{Kind: kind, Text: m[0], At: at})
		at += len(m[0])
	}
	if got, err := lex.Read(s); err != nil || !slices.Equal(got, want) {
		t.Errorf("Read(%q) = %v, %v; want %v", s, got, err, want)
	}
}

// P20: the bounds, and which error is told where several are so.
func TestReadBounds(t *testing.T) {
	if l := read(t, strings.Repeat(" ", 3999)+"a"); len(l) != 1 || l[0].At != 3999 {
		t.Errorf("MaxText bytes: %v", l)
	}
	bare(t, strings.Repeat(" ", 4001), api.ErrBound)
	bare(t, strings.Repeat("@", 4001), api.ErrBound)
	bare(t, strings.Repeat("a ", 2001), api.ErrBound)

	if l := read(t, strings.Repeat("+", 1000)); len(l) != 1000 || l[999] != (lex.Token{Kind: "sign", Text: "+", At: 999}) {
		t.Errorf("MaxTokens: %d", len(l))
	}
	bare(t, strings.Repeat("+", 1001), api.ErrFull)
	bare(t, strings.Repeat("a ", 2000), api.ErrFull)
	fault(t, strings.Repeat("+", 1001)+"@", 1001)
	fault(t, strings.Repeat("a ", 1999)+" @", 3999)
	fault(t, "@"+strings.Repeat("a ", 1999), 0)
}

// P20: an error is asked for by errors.Is and errors.As.
func TestReadErrorWraps(t *testing.T) {
	_, err := lex.Read("a ?")
	var f *api.Fault
	if !errors.Is(err, api.ErrText) || !errors.As(err, &f) || f.At != 2 {
		t.Errorf("Read: %v", err)
	}
}

// P21: texts with a blank between, whatever they are.
func TestText(t *testing.T) {
	for _, c := range []struct {
		list []lex.Token
		want string
	}{
		{nil, ""},
		{[]lex.Token{}, ""},
		{[]lex.Token{{}}, ""},
		{[]lex.Token{{}, {}}, " "},
		{[]lex.Token{{"name", "a", 7}}, "a"},
		{[]lex.Token{{"name", "a", 7}, {"sign", "=", 7}, {"number", "12", -1}, {"sign", ";", 0}}, "a = 12 ;"},
		{[]lex.Token{{"none", "@ \n", 0}, {"", "é", 0}}, "@ \n é"},
	} {
		if got := lex.Text(c.list); got != c.want {
			t.Errorf("Text(%v) = %q, want %q", c.list, got, c.want)
		}
	}
}

// P21: blanks stand between also where they make a text longer than MaxText.
func TestTextLong(t *testing.T) {
	s := strings.Repeat("abcdefgh;", 444)
	if got, want := lex.Text(read(t, s)), strings.TrimSpace(strings.Repeat("abcdefgh ; ", 444)); got != want {
		t.Errorf("Text of %d bytes, want %d", len(got), len(want))
	}
}

func withoutAt(l []lex.Token) []lex.Token {
	out := slices.Clone(l)
	for i := range out {
		out[i].At = 0
	}
	return out
}

// P21: what is read, written so, is read alike, but for At.
func TestTextReadsAlike(t *testing.T) {
	texts := []string{
		"fn main(a){var s=0;while a{s=s+a;a=a-1;}return s;}",
		"a<<=b>>c<=d==e!=f+g-h*i/j%k&l|m^n<!o=(p){q},r;",
		"\n\n<< <\t<=< = == =! != ! =\n",
		strings.Repeat("ab1,", 500),
		strings.Repeat("+", 1000),
		strings.Repeat("abc ", 1000),
	}
	each := strings.Fields("a if 7 << >> <= == != + - * / % & | ^ < ! = ( ) { } , ;")
	for _, a := range each {
		for _, b := range each {
			texts = append(texts, a+" "+b)
			if _, err := lex.Read(a + b); err == nil {
				texts = append(texts, a+b)
			}
		}
	}
	for _, s := range texts {
		l := read(t, s)
		if again := read(t, lex.Text(l)); !slices.Equal(withoutAt(again), withoutAt(l)) {
			t.Errorf("%q is read again as %v", s, again)
		}
	}
}

// P4: an answer is new memory, and what is handed over stays, also behind its length.
func TestMemory(t *testing.T) {
	one, two := read(t, "a b"), read(t, "a b")
	one[0] = lex.Token{}
	if two[0] != (lex.Token{Kind: "name", Text: "a"}) {
		t.Error("two answers share memory")
	}
	room := read(t, "a b c")
	kept := slices.Clone(room)
	if got := lex.Text(room[:2]); got != "a b" {
		t.Errorf("Text = %q", got)
	}
	if !slices.Equal(room, kept) {
		t.Error("Text changed its list")
	}
}
