package val_test

import (
	"math"
	"math/big"
	"slices"
	"testing"

	"kelpforest/api"
	"kelpforest/val"
)

const (
	least = math.MinInt
	most  = math.MaxInt
)

// edges: numbers at which an op may go wrong; tests take every pair of them.
var edges = []int{
	least, least + 1, least + 2, least / 2, -1 << 32, -65, -64, -63, -8, -7, -3, -2, -1,
	0, 1, 2, 3, 5, 7, 8, 10, 12, 62, 63, 64, 65, 127, 128, 1 << 31, 1<<32 + 1, 1 << 62, most - 1, most,
}

func do(t *testing.T, op string, a, b int) int {
	t.Helper()
	v, err := val.Do(op, a, b)
	if err != nil {
		t.Fatalf("Do(%q, %d, %d): %v", op, a, b, err)
	}
	return v
}

// wrapped: the int of 64 bits that a number of any size goes around to.
func wrapped(x *big.Int) int {
	low := new(big.Int).And(x, new(big.Int).SetUint64(math.MaxUint64))
	return int(low.Uint64())
}

// P10: the document's own examples and edges.
func TestDoTold(t *testing.T) {
	for _, c := range []struct {
		op         string
		a, b, want int
	}{
		{"+", 2, 3, 5}, {"+", most, 1, least}, {"+", least, -1, most}, {"+", least, least, 0},
		{"-", 2, 3, -1}, {"-", least, 1, most}, {"-", 0, least, least},
		{"*", -3, 5, -15}, {"*", 1 << 62, 4, 0}, {"*", most, most, 1}, {"*", least, -1, least},
		{"/", 7, 2, 3}, {"/", -7, 2, -3}, {"/", 7, -2, -3}, {"/", -7, -2, 3},
		{"/", 7, 0, 0}, {"/", -7, 0, 0}, {"/", 0, 0, 0}, {"/", least, 0, 0}, {"/", least, -1, least}, {"/", least, 1, least},
		{"%", 7, 2, 1}, {"%", -7, 2, -1}, {"%", 7, -2, 1}, {"%", -7, -2, -1},
		{"%", 7, 0, 7}, {"%", -7, 0, -7}, {"%", 0, 0, 0}, {"%", least, 0, least}, {"%", least, -1, 0},
		{"&", 12, 10, 8}, {"&", -1, 5, 5}, {"|", 12, 10, 14}, {"|", -8, 3, -5}, {"^", 12, 10, 6}, {"^", -1, 5, -6},
		{"<<", 3, 0, 3}, {"<<", 1, 63, least}, {"<<", 2, 63, 0}, {"<<", 3, 64, 3}, {"<<", 3, 65, 6},
		{"<<", 3, -1, least}, {"<<", 3, -63, 6}, {"<<", 3, -64, 3}, {"<<", 3, least, 3}, {"<<", 3, most, least},
		{">>", 8, 0, 8}, {">>", -8, 1, -4}, {">>", -7, 1, -4}, {">>", -1, 63, -1}, {">>", least, 63, -1}, {">>", most, 63, 0},
		{">>", 8, 64, 8}, {">>", 8, 65, 4}, {">>", 8, -63, 4}, {">>", -8, -64, -8}, {">>", -8, -1, -1}, {">>", 8, least, 8},
		{"<", 1, 2, 1}, {"<", 2, 2, 0}, {"<", 3, 2, 0}, {"<", least, most, 1}, {"<", most, least, 0},
		{"<=", 1, 2, 1}, {"<=", 2, 2, 1}, {"<=", 3, 2, 0}, {"<=", least, most, 1}, {"<=", most, least, 0},
		{"==", 2, 2, 1}, {"==", 2, 3, 0}, {"==", least, most, 0},
		{"!=", 2, 2, 0}, {"!=", 2, 3, 1}, {"!=", least, most, 1},
	} {
		if got := do(t, c.op, c.a, c.b); got != c.want {
			t.Errorf("%d %s %d = %d, want %d", c.a, c.op, c.b, got, c.want)
		}
	}
}

// P10: sums, products, quotients and rests against numbers that have no bound.
func TestDoAgainstUnboundedNumbers(t *testing.T) {
	for _, a := range edges {
		for _, b := range edges {
			x, y := big.NewInt(int64(a)), big.NewInt(int64(b))
			want := map[string]int{
				"+": wrapped(new(big.Int).Add(x, y)),
				"-": wrapped(new(big.Int).Sub(x, y)),
				"*": wrapped(new(big.Int).Mul(x, y)),
				"/": 0,
				"%": a,
			}
			if b != 0 {
				want["/"] = wrapped(new(big.Int).Quo(x, y))
				want["%"] = wrapped(new(big.Int).Rem(x, y))
			}
			for op, v := range want {
				if got := do(t, op, a, b); got != v {
					t.Errorf("%d %s %d = %d, want %d", a, op, b, got, v)
				}
			}
		}
	}
}

// P10: bits and shifts against unbounded numbers, shifts by b modulo 64.
func TestDoBitsAgainstUnboundedNumbers(t *testing.T) {
	for _, a := range edges {
		for _, b := range edges {
			x, y := big.NewInt(int64(a)), big.NewInt(int64(b))
			by := uint(new(big.Int).Mod(y, big.NewInt(64)).Uint64())
			for op, z := range map[string]*big.Int{
				"&":  new(big.Int).And(x, y),
				"|":  new(big.Int).Or(x, y),
				"^":  new(big.Int).Xor(x, y),
				"<<": new(big.Int).Lsh(x, by),
				">>": new(big.Int).Rsh(x, by),
			} {
				if got, want := do(t, op, a, b), wrapped(z); got != want {
					t.Errorf("%d %s %d = %d, want %d", a, op, b, got, want)
				}
			}
		}
	}
}

// P10: what is held against another is 1 or 0.
func TestDoComparisons(t *testing.T) {
	for _, a := range edges {
		for _, b := range edges {
			order := big.NewInt(int64(a)).Cmp(big.NewInt(int64(b)))
			for op, is := range map[string]bool{"<": order < 0, "<=": order <= 0, "==": order == 0, "!=": order != 0} {
				want := 0
				if is {
					want = 1
				}
				if got := do(t, op, a, b); got != want {
					t.Errorf("%d %s %d = %d, want %d", a, op, b, got, want)
				}
			}
		}
	}
}

// P10: ops of one number.
func TestOne(t *testing.T) {
	for _, c := range []struct {
		op      string
		a, want int
	}{
		{"-", 5, -5}, {"-", -5, 5}, {"-", 0, 0}, {"-", most, least + 1}, {"-", least, least},
		{"!", 0, 1}, {"!", 1, 0}, {"!", 7, 0}, {"!", -1, 0}, {"!", least, 0}, {"!", most, 0},
	} {
		if got, err := val.One(c.op, c.a); got != c.want || err != nil {
			t.Errorf("%s %d = %d, %v, want %d", c.op, c.a, got, err, c.want)
		}
	}
}

// P10: the ops in their order, in memory that nobody else sees (P4).
func TestOps(t *testing.T) {
	want := []string{"+", "-", "*", "/", "%", "&", "|", "^", "<<", ">>", "<", "<=", "==", "!="}
	first := val.Ops()
	if !slices.Equal(first, want) {
		t.Fatal(first)
	}
	second := val.Ops()
	clear(first[:cap(first)])
	if !slices.Equal(second, want) || !slices.Equal(val.Ops(), want) {
		t.Error("a change of one answer shows in another")
	}
}

// shortTexts: every text of at most two bytes, and some that are nearly an op.
func shortTexts() []string {
	out := []string{"", "what", "+ ", " +", "<<<", ">>>", "<=>", "===", "!==", "and", "add", "−", "×", "÷", "≤", "≠", "+\x00", "<<\x00"}
	for i := range 256 {
		out = append(out, string([]byte{byte(i)}))
		for j := range 256 {
			out = append(out, string([]byte{byte(i), byte(j)}))
		}
	}
	return out
}

// P10: Do knows the ops of Ops and no other; the error is bare, the number 0 (P3).
func TestDoKnowsJustOps(t *testing.T) {
	ops := val.Ops()
	for _, op := range shortTexts() {
		v, err := val.Do(op, 6, 3)
		if slices.Contains(ops, op) {
			if err != nil {
				t.Errorf("Do(%q): %v", op, err)
			}
		} else if v != 0 || err != api.ErrKind {
			t.Errorf("Do(%q) = %d, %v, want 0, %v", op, v, err, api.ErrKind)
		}
	}
}

// P10: One knows two ops; the error is bare, the number 0 (P3).
func TestOneKnowsJustTwo(t *testing.T) {
	for _, op := range shortTexts() {
		v, err := val.One(op, 6)
		if op == "-" || op == "!" {
			if err != nil {
				t.Errorf("One(%q): %v", op, err)
			}
		} else if v != 0 || err != api.ErrKind {
			t.Errorf("One(%q) = %d, %v, want 0, %v", op, v, err, api.ErrKind)
		}
	}
}

// P11: just seven ops swap.
func TestSwapsNames(t *testing.T) {
	swapping := []string{"+", "*", "&", "|", "^", "==", "!="}
	for _, op := range shortTexts() {
		if got, want := val.Swaps(op), slices.Contains(swapping, op); got != want {
			t.Errorf("Swaps(%q) = %v", op, got)
		}
	}
}

// P11: an op swaps just if the numbers of no pair tell their places.
func TestSwapsHolds(t *testing.T) {
	for _, op := range val.Ops() {
		same := true
		for _, a := range edges {
			for _, b := range edges {
				same = same && do(t, op, a, b) == do(t, op, b, a)
			}
		}
		if val.Swaps(op) != same {
			t.Errorf("Swaps(%q) = %v, but of all pairs: %v", op, val.Swaps(op), same)
		}
	}
}

// checkParts: quotient times b, and the rest, is a; the rest is smaller than b and not of the other sign than a.
func checkParts(t *testing.T, a, b int) {
	t.Helper()
	q, r := do(t, "/", a, b), do(t, "%", a, b)
	if again := do(t, "+", do(t, "*", q, b), r); again != a {
		t.Errorf("%d by %d: %d and %d make %d", a, b, q, r, again)
	}
	if big.NewInt(int64(r)).CmpAbs(big.NewInt(int64(b))) >= 0 {
		t.Errorf("%d by %d: the rest is %d", a, b, r)
	}
	if r != 0 && (r < 0) != (a < 0) {
		t.Errorf("%d by %d: the rest %d has another sign", a, b, r)
	}
}

// P12: quotient and rest make a number again.
func TestQuotientAndRest(t *testing.T) {
	for _, a := range edges {
		for _, b := range edges {
			if b != 0 {
				checkParts(t, a, b)
			}
		}
	}
	for a := -40; a <= 40; a++ {
		for b := -12; b <= 12; b++ {
			if b != 0 {
				checkParts(t, a, b)
			}
		}
	}
}
