package ops_test

import (
	"math"
	"strings"
	"testing"

	"louver/api"
	"louver/ops"
)

type signed struct {
	op    int
	sign  string
	arity int
}

func chapter() []signed {
	return []signed{
		{api.OpAdd, "+", 2}, {api.OpSub, "-", 2}, {api.OpMul, "*", 2}, {api.OpDiv, "/", 2}, {api.OpRem, "%", 2},
		{api.OpAnd, "&", 2}, {api.OpOr, "|", 2}, {api.OpXor, "^", 2}, {api.OpShl, "<<", 2}, {api.OpShr, ">>", 2},
		{api.OpEq, "==", 2}, {api.OpNe, "!=", 2}, {api.OpLt, "<", 2}, {api.OpLe, "<=", 2},
		{api.OpNeg, "-", 1}, {api.OpNot, "!", 1}, {api.OpInv, "~", 1},
	}
}

func TestArityAndSign(t *testing.T) { // P2.2
	for _, c := range chapter() {
		if got := ops.Arity(c.op); got != c.arity {
			t.Errorf("Arity(%d) = %d, want %d", c.op, got, c.arity)
		}
		if got := ops.Sign(c.op); got != c.sign {
			t.Errorf("Sign(%d) = %q, want %q", c.op, got, c.sign)
		}
	}
}

func TestArityAndSignOfOthers(t *testing.T) { // P2.2
	for _, op := range strangers {
		if got := ops.Arity(op); got != 0 {
			t.Errorf("Arity(%d) = %d", op, got)
		}
		if got := ops.Sign(op); got != "" {
			t.Errorf("Sign(%d) = %q", op, got)
		}
	}
}

func TestBySign(t *testing.T) { // P2.2
	for _, c := range chapter() {
		if got, ok := ops.BySign(c.sign, c.arity); got != c.op || !ok {
			t.Errorf("BySign(%q, %d) = %d, %v, want %d", c.sign, c.arity, got, ok, c.op)
		}
	}
}

// TestBySignOfAll asks every sign, and texts that are near to one, with every arity.
func TestBySignOfAll(t *testing.T) { // P2.2
	signs := []string{"", " ", "+ ", " +", "++", "--", "**", "<>", ">", ">=", "=", "=>", "=<", "===", "<<<", "&&", "||", "&^", "!!", "~~", "a", "1", "add", "\x00", "-\x00", "\u2212", "\xff", strings.Repeat("-", 1<<16)}
	for _, c := range chapter() {
		signs = append(signs, c.sign, c.sign+c.sign, c.sign+" ")
	}
	for _, sign := range signs {
		for _, arity := range []int{math.MinInt, -2, -1, 0, 1, 2, 3, 4, 258, math.MaxInt} {
			want := 0
			for _, c := range chapter() {
				if c.sign == sign && c.arity == arity {
					want = c.op
				}
			}
			if got, ok := ops.BySign(sign, arity); got != want || ok != (want != 0) {
				t.Errorf("BySign(%q, %d) = %d, %v, want %d", sign, arity, got, ok, want)
			}
		}
	}
}

func TestArityBesideAnswers(t *testing.T) { // P2.2
	for op := -300; op <= 300; op++ {
		_, single := ops.Unary(op, 1)
		_, double := ops.Binary(op, 1, 1)
		arity, sign := ops.Arity(op), ops.Sign(op)
		if single != (arity == 1) || double != (arity == 2) || (sign != "") != (arity != 0) {
			t.Errorf("the number %d: %v, %v, Arity %d, Sign %q", op, single, double, arity, sign)
		}
		if back, ok := ops.BySign(sign, arity); arity != 0 && (back != op || !ok) {
			t.Errorf("BySign of Sign and Arity of %d = %d, %v", op, back, ok)
		}
	}
}
