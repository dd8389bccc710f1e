package sense_test

import (
	"math"
	"slices"
	"testing"

	"louver/api"
	"louver/sense"
)

// sceneLocals are f's p, q and v.
var sceneLocals = []int64{3, -4, 5}

func TestEvalOfTexts(t *testing.T) { // P9.2
	s := parsed(t, scene)
	for text, want := range map[string]int64{
		"7": 7, "0": 0, "9223372036854775807": math.MaxInt64, "x": 10, "y": 20, "p": 3, "q": -4, "v": 5,
		"x - y": -10, "y - x": 10, "p - q - v": 2, "p - (q - v)": 12, "2 + 3 * 4": 14, "(2 + 3) * 4": 20, "-x": -10, "!x": 0, "!!x": 1, "~x": -11, "-!0": -1,
		"x / p": 3, "q / p": -1, "x % p": 1, "q % p": -1, "x / 0": 0, "x % 0": 0, "(-9223372036854775807 - 1) / -1": math.MinInt64, "(-9223372036854775807 - 1) % -1": 0,
		"9223372036854775807 + 1": math.MinInt64, "-9223372036854775807 - 2": math.MaxInt64, "9223372036854775807 * 2": -2,
		"6 & 3": 2, "6 | 3": 7, "6 ^ 3": 5, "1 << 3": 8, "1 << 64": 1, "1 << 67": 8, "1 << -1": math.MinInt64, "-1 >> 60": 15, "-1 >> 0": -1, "8 >> 1": 4,
		"x == 10": 1, "x == y": 0, "x != y": 1, "x != x": 0, "q < p": 1, "p < p": 0, "p <= p": 1, "p <= q": 0, "0 < -1": 0,
		"t[0]": 1, "t[2]": 3, "t[3]": 0, "t[-1]": 0, "t[q]": 0, "u[0]": 4, "u[1]": 0, "u[256]": 0, "t[4294967296]": 0, "t[9223372036854775807]": 0, "t[-9223372036854775807 - 1]": 0,
		"t[t[0]]": 2, "t[t[t[0]]]": 3, "t[t[t[t[0]]]]": 0, "t[p - 1] * t[p - 2] - u[t[9]]": 2, "-t[p == 3]": -2, "x - t[1] - t[2] * u[0]": -4,
	} {
		wantValue(t, text, s, 0, termsOf(t, text), sceneLocals, sceneMemory(), want, true)
	}
}

// TestEvalHangsOnTheFunction asks of names that are locals of one function alone.
func TestEvalHangsOnTheFunction(t *testing.T) { // P9.2
	s := parsed(t, "global x {}; func f {} (p {}, q {}) () { var v {}; return; } func g {} (q {}) () { var p {}; var w {}; return; } func h {} () () { return; }")
	locals := [][]int64{{1, 2, 3}, {1, 2, 3}, nil}
	const none = -1
	for text, want := range map[string][3]int64{"p": {1, 2, none}, "q": {2, 1, none}, "v": {3, none, none}, "w": {none, 3, none}, "p * 10 + q": {12, 21, none}, "x": {9, 9, 9}} {
		for f, value := range want {
			wantValue(t, text, s, f, termsOf(t, text), locals[f], api.Memory{Globals: []int64{9}}, max(value, 0), value != none)
		}
	}
}

func TestEvalOfNamesThatAreNotFound(t *testing.T) { // P9.2, P0.2
	s := parsed(t, "principal a; "+scene)
	for _, text := range []string{"a", "z", "t", "c", "f", "g", "x[0]", "p[0]", "c[0]", "g[0]", "z[0]", "pp", "v_"} {
		for _, around := range []string{text, "x + " + text, text + " + x", "t[" + text + "]", "y * -" + text + " - t[x]", "0 & " + text} {
			wantValue(t, around, s, 0, termsOf(t, around), sceneLocals, sceneMemory(), 0, false)
		}
	}
	for _, name := range []string{"", "1", "if", "X", "x ", "t[0]"} {
		wantValue(t, name, s, 0, terms(named(name)), sceneLocals, sceneMemory(), 0, false)
		wantValue(t, name, s, 0, terms(number(0), index(name)), sceneLocals, sceneMemory(), 0, false)
	}
}

func number(n int64) api.Term        { return api.Term{Kind: api.TNumber, Value: n} }
func named(name string) api.Term     { return api.Term{Kind: api.TName, Name: name} }
func index(name string) api.Term     { return api.Term{Kind: api.TIndex, Name: name} }
func unary(op int64) api.Term        { return api.Term{Kind: api.TUnary, Value: op} }
func binary(op int64) api.Term       { return api.Term{Kind: api.TBinary, Value: op} }
func terms(l ...api.Term) []api.Term { return l }

func TestEvalOfWhatIsNotWhole(t *testing.T) { // P9.2, P5.4
	s := parsed(t, scene)
	n, x, at, neg, sub := number(1), named("x"), index("t"), unary(api.OpNeg), binary(api.OpSub)
	for _, e := range [][]api.Term{
		nil, {}, {at}, {neg}, {sub}, {n, n}, {n, x}, {x, sub}, {n, sub, n}, {sub, n, n}, {neg, n}, {at, n}, {n, n, n, sub}, {n, n, sub, sub}, {n, n, sub, n},
		{n, n, sub, sub, n, n}, {neg, n, n}, {n, neg, neg, sub}, {n, n, neg, at}, {n, n, sub, neg, n},
	} {
		wantValue(t, "not whole", s, 0, e, sceneLocals, sceneMemory(), 0, false)
	}
	for _, kind := range []int{0, -1, 6, 7, 1 << 40, math.MinInt, math.MaxInt} {
		other := api.Term{Kind: kind, Value: api.OpNeg, Name: "x"}
		for _, e := range [][]api.Term{{other}, {n, other}, {other, n}, {n, n, other}, {n, n, other, sub}} {
			wantValue(t, "a term of no kind", s, 0, e, sceneLocals, sceneMemory(), 0, false)
		}
	}
	for _, op := range []int64{0, -1, 18, 99, 1 << 32, 1<<32 + 1, 1<<32 + 15, math.MinInt64, math.MaxInt64} {
		wantValue(t, "no operation", s, 0, terms(n, unary(op)), sceneLocals, sceneMemory(), 0, false)
		wantValue(t, "no operation", s, 0, terms(n, n, binary(op)), sceneLocals, sceneMemory(), 0, false)
	}
	for op := int64(api.OpAdd); op <= api.OpInv; op++ {
		_, one := sense.Eval(s, 0, terms(n, unary(op)), sceneLocals, sceneMemory())
		_, two := sense.Eval(s, 0, terms(n, n, binary(op)), sceneLocals, sceneMemory())
		if one != (op >= api.OpNeg) || two == one {
			t.Errorf("operation %d: of one %t, of two %t", op, one, two)
		}
	}
}

// TestEvalOfAnyWholeTerms has such as no text is read as: they are whole, and their names are found.
func TestEvalOfAnyWholeTerms(t *testing.T) { // P9.2
	s := parsed(t, scene)
	for _, c := range []struct {
		e    []api.Term
		want int64
	}{
		{terms(number(-5)), -5},
		{terms(number(math.MinInt64), unary(api.OpNeg)), math.MinInt64},
		{terms(number(7), number(-2), binary(api.OpRem)), 1},
		{terms(api.Term{Kind: api.TNumber, Value: 3, Name: "nobody"}), 3},
		{terms(api.Term{Kind: api.TName, Value: 99, Name: "x"}), 10},
		{terms(number(1), api.Term{Kind: api.TIndex, Value: 15, Name: "t"}), 2},
		{terms(number(1), api.Term{Kind: api.TUnary, Value: api.OpInv, Name: "x"}), -2},
		{terms(number(1), number(3), api.Term{Kind: api.TBinary, Value: api.OpSub, Name: "t"}), -2},
	} {
		wantValue(t, "whole terms", s, 0, c.e, sceneLocals, sceneMemory(), c.want, true)
	}
}

// TestEvalOfLongTerms goes beyond what layer 7 allows in a statement: no bound of terms is named here.
func TestEvalOfLongTerms(t *testing.T) { // P9.2
	s := parsed(t, scene)
	for _, n := range []int{2, 23, 24, 47, 48, 49, 50, 1000, 100000} {
		ones := slices.Repeat(terms(number(1)), n)
		subs := slices.Repeat(terms(binary(api.OpSub)), n-1)
		negs := slices.Repeat(terms(unary(api.OpNeg)), n)
		odd := int64(n % 2)
		wantValue(t, "1 - (1 - (1 - ..))", s, 0, slices.Concat(ones, subs), sceneLocals, sceneMemory(), odd, true)
		wantValue(t, "one too many", s, 0, slices.Concat(ones, subs, subs[:1]), sceneLocals, sceneMemory(), 0, false)
		wantValue(t, "one too few", s, 0, slices.Concat(ones, subs[1:]), sceneLocals, sceneMemory(), 0, false)
		wantValue(t, "---x", s, 0, slices.Concat(terms(named("x")), negs), sceneLocals, sceneMemory(), 10-20*odd, true)
		left := terms(named("x"))
		for range n {
			left = append(left, number(1), binary(api.OpAdd))
		}
		wantValue(t, "x + 1 + 1 + ..", s, 0, left, sceneLocals, sceneMemory(), 10+int64(n), true)
	}
}
