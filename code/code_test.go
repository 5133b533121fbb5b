package code_test

import (
	"math"
	"math/rand"
	"strconv"
	"strings"
	"testing"

	"kelpforest/api"
	"kelpforest/code"
)

// row of the chapter's table of ops.
type row struct {
	op     string
	number int
	has    string
}

// rows: the table as the chapter has it.
func rows() []row {
	return []row{
		{"const", 1, "d imm"}, {"high", 2, "d imm"}, {"move", 3, "d a"}, {"load", 4, "d imm"},
		{"store", 5, "a imm"}, {"param", 6, "d imm"}, {"arg", 7, "a imm"}, {"call", 8, "d b imm"},
		{"tick", 9, ""}, {"print", 10, "a"}, {"jump", 11, "imm"}, {"if", 12, "a imm"},
		{"return", 13, "a"}, {"neg", 14, "d a"}, {"not", 15, "d a"}, {"add", 16, "d a b"},
		{"sub", 17, "d a b"}, {"mul", 18, "d a b"}, {"div", 19, "d a b"}, {"rem", 20, "d a b"},
		{"and", 21, "d a b"}, {"or", 22, "d a b"}, {"xor", 23, "d a b"}, {"shl", 24, "d a b"},
		{"shr", 25, "d a b"}, {"less", 26, "d a b"}, {"most", 27, "d a b"}, {"same", 28, "d a b"},
		{"other", 29, "d a b"},
	}
}

func (r row) owns(field string) bool {
	for _, f := range strings.Fields(r.has) {
		if f == field {
			return true
		}
	}
	return false
}

// fill: an instruction of this op with what it has of these.
func (r row) fill(d, a, b, imm int) code.Ins {
	i := code.Ins{Op: r.op}
	if r.owns("d") {
		i.D = d
	}
	if r.owns("a") {
		i.A = a
	}
	if r.owns("b") {
		i.B = b
	}
	if r.owns("imm") {
		i.Imm = imm
	}
	return i
}

// wrong: the error that P111 has for an instruction of this op.
func (r row) wrong(i code.Ins) error {
	out := func(field string, v, most int) bool { return r.owns(field) && (v < 0 || v > most) }
	most := 7
	if r.op == "call" {
		most = 4
	}
	if out("d", i.D, 7) || out("a", i.A, 7) || out("b", i.B, most) || i.Imm < math.MinInt32 || i.Imm > math.MaxInt32 {
		return api.ErrBound
	}
	if i != r.fill(i.D, i.A, i.B, i.Imm) {
		return api.ErrShape
	}
	return nil
}

// word of an instruction that is well: its bytes, one behind the other.
func (r row) word(i code.Ins) uint64 {
	imm := i.Imm
	if imm < 0 {
		imm += 1 << 32
	}
	w := uint64(0)
	for _, b := range []int{r.number, i.D, i.A, i.B, imm >> 24, imm >> 16 & 255, imm >> 8 & 255, imm & 255} {
		w = w*256 + uint64(b)
	}
	return w
}

// text of an instruction that is well.
func (r row) text(i code.Ins) string {
	mark := "r"
	if r.op == "call" {
		mark = ""
	}
	s := r.op
	for _, f := range strings.Fields(r.has) {
		s += " " + map[string]string{"d": "r" + strconv.Itoa(i.D), "a": "r" + strconv.Itoa(i.A), "b": mark + strconv.Itoa(i.B), "imm": strconv.Itoa(i.Imm)}[f]
	}
	return s
}

// same: that an instruction is this word and this text, and the word this instruction.
func same(t *testing.T, i code.Ins, w uint64, text string) {
	t.Helper()
	if got, err := code.Encode(i); got != w || err != nil {
		t.Errorf("Encode(%v) = %#016x, %v; want %#016x", i, got, err, w)
	}
	if got, err := code.Decode(w); got != i || err != nil {
		t.Errorf("Decode(%#016x) = %v, %v; want %v", w, got, err, i)
	}
	if got := code.Text(i); got != text {
		t.Errorf("Text(%v) = %q, want %q", i, got, text)
	}
}

// refused: that an instruction is told as an error, bare, and has neither word nor text.
func refused(t *testing.T, i code.Ins, want error) {
	t.Helper()
	if w, err := code.Encode(i); w != 0 || err != want {
		t.Errorf("Encode(%v) = %#016x, %v; want %v", i, w, err, want)
	}
	if s := code.Text(i); s != "" {
		t.Errorf("Text(%v) = %q, want nothing", i, s)
	}
}

// unread: that a word is told as an error, bare, and is no instruction.
func unread(t *testing.T, w uint64, want error) {
	t.Helper()
	if i, err := code.Decode(w); i != (code.Ins{}) || err != want {
		t.Errorf("Decode(%#016x) = %v, %v; want %v", w, i, err, want)
	}
}

// P110, P111: words and texts, spelt out.
func TestWords(t *testing.T) {
	for _, c := range []struct {
		text string
		word uint64
		ins  code.Ins
	}{
		{"const r1 -1", 0x01010000ffffffff, code.Ins{Op: "const", D: 1, Imm: -1}},
		{"const r0 2147483647", 0x010000007fffffff, code.Ins{Op: "const", Imm: math.MaxInt32}},
		{"high r7 -2147483648", 0x0207000080000000, code.Ins{Op: "high", D: 7, Imm: math.MinInt32}},
		{"move r1 r2", 0x0301020000000000, code.Ins{Op: "move", D: 1, A: 2}},
		{"load r0 9", 0x0400000000000009, code.Ins{Op: "load", Imm: 9}},
		{"store r3 10", 0x050003000000000a, code.Ins{Op: "store", A: 3, Imm: 10}},
		{"param r2 1", 0x0602000000000001, code.Ins{Op: "param", D: 2, Imm: 1}},
		{"arg r5 3", 0x0700050000000003, code.Ins{Op: "arg", A: 5, Imm: 3}},
		{"call r1 4 2", 0x0801000400000002, code.Ins{Op: "call", D: 1, B: 4, Imm: 2}},
		{"tick", 0x0900000000000000, code.Ins{Op: "tick"}},
		{"print r7", 0x0a00070000000000, code.Ins{Op: "print", A: 7}},
		{"jump 31", 0x0b0000000000001f, code.Ins{Op: "jump", Imm: 31}},
		{"jump -2", 0x0b000000fffffffe, code.Ins{Op: "jump", Imm: -2}},
		{"if r1 0", 0x0c00010000000000, code.Ins{Op: "if", A: 1}},
		{"return r0", 0x0d00000000000000, code.Ins{Op: "return"}},
		{"neg r1 r2", 0x0e01020000000000, code.Ins{Op: "neg", D: 1, A: 2}},
		{"not r2 r1", 0x0f02010000000000, code.Ins{Op: "not", D: 2, A: 1}},
		{"add r1 r2 r3", 0x1001020300000000, code.Ins{Op: "add", D: 1, A: 2, B: 3}},
		{"shr r3 r2 r1", 0x1903020100000000, code.Ins{Op: "shr", D: 3, A: 2, B: 1}},
		{"less r0 r0 r0", 0x1a00000000000000, code.Ins{Op: "less"}},
		{"other r7 r7 r7", 0x1d07070700000000, code.Ins{Op: "other", D: 7, A: 7, B: 7}},
	} {
		same(t, c.ins, c.word, c.text)
	}
}

// P110, P111: every op, with every number that its fields may have.
func TestEveryOp(t *testing.T) {
	imms := []int{0, 1, -1, 9, 255, 256, 65536, -65536, 1 << 24, math.MaxInt32, math.MinInt32}
	for _, r := range rows() {
		for k := range 8 {
			for n, imm := range imms {
				i := r.fill(k, (k+3)%8, (k+n)%5, imm)
				same(t, i, r.word(i), r.text(i))
			}
			if i := r.fill(k, 7-k, k, 0); r.op != "call" {
				same(t, i, r.word(i), r.text(i))
			}
		}
	}
}

// P110: what each op reckons, by its sign.
func TestSigns(t *testing.T) {
	ones := map[string]string{"neg": "-", "not": "!"}
	twos := map[string]string{"add": "+", "sub": "-", "mul": "*", "div": "/", "rem": "%", "and": "&", "or": "|", "xor": "^", "shl": "<<", "shr": ">>", "less": "<", "most": "<=", "same": "==", "other": "!="}
	for _, r := range rows() {
		want := ones[r.op] + twos[r.op]
		if got := code.Sign(r.op); got != want {
			t.Errorf("Sign(%q) = %q, want %q", r.op, got, want)
		}
		if got := code.Reckons(want, r.owns("b")); want != "" && got != r.op {
			t.Errorf("Reckons(%q) = %q, want %q", want, got, r.op)
		}
	}
	for _, name := range []string{"", "+", "-", "Add", "what"} {
		if got := code.Sign(name); got != "" {
			t.Errorf("Sign(%q) = %q", name, got)
		}
	}
	for _, sign := range []string{"", "add", "~", "!!", " "} {
		if one, two := code.Reckons(sign, false), code.Reckons(sign, true); one+two != "" {
			t.Errorf("Reckons(%q) = %q, %q", sign, one, two)
		}
	}
	if code.Reckons("!", true)+code.Reckons("+", false) != "" {
		t.Error("a sign of two numbers is none of one")
	}
}

// P111: what is no op, whatever it has.
func TestNoOp(t *testing.T) {
	for _, name := range []string{"", "what", "Const", "const ", " add", "+", "-", "one", "two", "r1"} {
		refused(t, code.Ins{Op: name}, api.ErrKind)
		refused(t, code.Ins{Op: name, D: 99, A: -1, B: 1, Imm: 1 << 40}, api.ErrKind)
	}
	for number := range uint64(256) {
		if number < 1 || number > 29 {
			unread(t, number<<56, api.ErrKind)
			unread(t, number<<56|0xffffffffffffff, api.ErrKind)
		}
	}
}

// P111: one field that is beyond its bounds, or just within.
func TestBounds(t *testing.T) {
	for _, c := range []struct {
		ins  code.Ins
		want error
	}{
		{code.Ins{Op: "move", D: 8}, api.ErrBound},
		{code.Ins{Op: "move", D: -1}, api.ErrBound},
		{code.Ins{Op: "move", A: 8}, api.ErrBound},
		{code.Ins{Op: "move", A: -1}, api.ErrBound},
		{code.Ins{Op: "move", D: 256}, api.ErrBound},
		{code.Ins{Op: "add", B: 8}, api.ErrBound},
		{code.Ins{Op: "add", B: -1}, api.ErrBound},
		{code.Ins{Op: "add", A: math.MinInt}, api.ErrBound},
		{code.Ins{Op: "print", A: math.MaxInt}, api.ErrBound},
		{code.Ins{Op: "call", D: 8}, api.ErrBound},
		{code.Ins{Op: "call", B: 5}, api.ErrBound},
		{code.Ins{Op: "call", B: -1}, api.ErrBound},
		{code.Ins{Op: "const", Imm: 1 << 31}, api.ErrBound},
		{code.Ins{Op: "jump", Imm: -1<<31 - 1}, api.ErrBound},
		{code.Ins{Op: "load", Imm: 1 << 32}, api.ErrBound},
		{code.Ins{Op: "if", Imm: math.MinInt}, api.ErrBound},
		{code.Ins{Op: "add", Imm: 1 << 32}, api.ErrBound},
		{code.Ins{Op: "tick", Imm: math.MaxInt}, api.ErrBound},
		{code.Ins{Op: "tick", D: 1}, api.ErrShape},
		{code.Ins{Op: "tick", A: 1}, api.ErrShape},
		{code.Ins{Op: "tick", B: 1}, api.ErrShape},
		{code.Ins{Op: "tick", Imm: 1}, api.ErrShape},
		{code.Ins{Op: "tick", D: 99}, api.ErrShape},
		{code.Ins{Op: "const", A: 1}, api.ErrShape},
		{code.Ins{Op: "call", A: 1}, api.ErrShape},
		{code.Ins{Op: "store", D: 1}, api.ErrShape},
		{code.Ins{Op: "neg", B: 1}, api.ErrShape},
		{code.Ins{Op: "add", Imm: -1}, api.ErrShape},
		{code.Ins{Op: "move", D: 8, B: 1}, api.ErrBound},
		{code.Ins{Op: "store", D: 1, A: 8}, api.ErrBound},
		{code.Ins{Op: "call", A: 1, B: 5}, api.ErrBound},
		{code.Ins{Op: "const", B: 1, Imm: 1 << 31}, api.ErrBound},
	} {
		refused(t, c.ins, c.want)
	}
}

// P111: words with bytes that are beyond their bounds, or not the op's own.
func TestWrongWords(t *testing.T) {
	for w, want := range map[uint64]error{
		0:                  api.ErrKind,
		0x1e00000000000000: api.ErrKind,
		0xff00000000000000: api.ErrKind,
		0x0308000000000000: api.ErrBound,
		0x0300ff0000000000: api.ErrBound,
		0x1000000800000000: api.ErrBound,
		0x0801000500000002: api.ErrBound,
		0x080100ff00000002: api.ErrBound,
		0x0308000100000001: api.ErrBound,
		0x0901000000000000: api.ErrShape,
		0x0900000000000001: api.ErrShape,
		0x09ff000000000000: api.ErrShape,
		0x0100010000000000: api.ErrShape,
		0x0100000100000000: api.ErrShape,
		0x0801010400000002: api.ErrShape,
		0x1001020300000001: api.ErrShape,
		0x10010203ffffffff: api.ErrShape,
	} {
		unread(t, w, want)
	}
}

// P111: every op with every field about its edges, all with all.
func TestEdges(t *testing.T) {
	registers := []int{-1, 0, 1, 4, 5, 7, 8, 256}
	imms := []int{math.MinInt32 - 1, math.MinInt32, -1, 0, 1, math.MaxInt32, math.MaxInt32 + 1, 1 << 32}
	for _, r := range rows() {
		for n := range 8 * 8 * 8 * 8 {
			i := code.Ins{Op: r.op, D: registers[n%8], A: registers[n/8%8], B: registers[n/64%8], Imm: imms[n/512]}
			if want := r.wrong(i); want != nil {
				refused(t, i, want)
			} else {
				same(t, i, r.word(i), r.text(i))
			}
		}
	}
}

// P111, P112: words about the edges: each is what its instruction is, or is refused as that is.
func TestEveryWord(t *testing.T) {
	bytes := []uint64{0, 1, 4, 5, 7, 8, 255}
	imms := []uint64{0, 1, 0x7fffffff, 0x80000000, 0xffffffff}
	for _, r := range rows() {
		for n := range 7 * 7 * 7 * 5 {
			d, a, b, imm := bytes[n%7], bytes[n/7%7], bytes[n/49%7], imms[n/343]
			w := uint64(r.number)<<56 | d<<48 | a<<40 | b<<32 | imm
			i := code.Ins{Op: r.op, D: int(d), A: int(a), B: int(b), Imm: int(imm)}
			if imm >= 1<<31 {
				i.Imm -= 1 << 32
			}
			if want := r.wrong(i); want != nil {
				unread(t, w, want)
			} else {
				same(t, i, w, r.text(i))
			}
		}
	}
}

// P112: of words by chance, those that are instructions are those instructions' words.
func TestChance(t *testing.T) {
	chance := rand.New(rand.NewSource(11))
	read := 0
	for range 200000 {
		w := chance.Uint64() & 0x1f0707070000ffff
		for range chance.Intn(4) {
			w &^= 0xff << (8 * chance.Intn(8))
		}
		i, err := code.Decode(w)
		if err != nil {
			continue
		}
		read++
		if back, err := code.Encode(i); back != w || err != nil {
			t.Fatalf("%#016x is %v, which is %#016x, %v", w, i, back, err)
		}
		if code.Text(i) == "" {
			t.Fatalf("%v has no text", i)
		}
	}
	if read < 5000 {
		t.Errorf("only %d of the words were instructions", read)
	}
}

// P112: no two instructions have one text.
func TestTextsDiffer(t *testing.T) {
	seen := map[string]code.Ins{}
	for _, r := range rows() {
		for n := range 8 * 8 * 5 * 3 {
			i := r.fill(n%8, n/8%8, n/64%5, n/320-1)
			s := code.Text(i)
			if other, ok := seen[s]; s == "" || ok && other != i {
				t.Fatalf("%q is the text of %v and of %v", s, other, i)
			}
			seen[s] = i
		}
	}
}
