// Package val: numbers: see ../shared/doc/01-val.md.
package val

import "kelpforest/api"

// Ops of two numbers.
func Ops() []string {
	return []string{"+", "-", "*", "/", "%", "&", "|", "^", "<<", ">>", "<", "<=", "==", "!="}
}

// Swaps: may an op's numbers change places?
func Swaps(op string) bool {
	switch op {
	case "+", "*", "&", "|", "^", "==", "!=":
		return true
	}
	return false
}

// Do an op.
func Do(op string, a, b int) (int, error) {
	switch op {
	case "+":
		return a + b, nil
	case "-":
		return a - b, nil
	case "*":
		return a * b, nil
	case "/":
		return quotient(a, b), nil
	case "%":
		return rest(a, b), nil
	case "&":
		return a & b, nil
	case "|":
		return a | b, nil
	case "^":
		return a ^ b, nil
	case "<<":
		return a << places(b), nil
	case ">>":
		return a >> places(b), nil
	case "<":
		return truth(a < b), nil
	case "<=":
		return truth(a <= b), nil
	case "==":
		return truth(a == b), nil
	case "!=":
		return truth(a != b), nil
	}
	return 0, api.ErrKind
}

// One op of a number.
func One(op string, a int) (int, error) {
	switch op {
	case "-":
		return -a, nil
	case "!":
		return truth(a == 0), nil
	}
	return 0, api.ErrKind
}

// quotient needs no case for the least int by -1: Go itself goes around there.
func quotient(a, b int) int {
	if b == 0 {
		return 0
	}
	return a / b
}

// rest by 0 is a, so that it and a quotient of 0 still tell a.
func rest(a, b int) int {
	if b == 0 {
		return a
	}
	return a % b
}

// places takes the lowest six bits, for Go panics at a shift below 0 and shifts everything out at 64.
func places(b int) uint {
	return uint(b) & 63
}

// truth as a number, for the language has no other values.
func truth(is bool) int {
	if is {
		return 1
	}
	return 0
}
