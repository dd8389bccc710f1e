package flowtype_test

import (
	"math"
	"slices"
	"testing"

	"louver/api"
)

// scope has a thing of each sort, each of a label of its own; f has locals, g has none, and h has the same ones about.
const scope = `principal a b c d e f;
	global x {a}; global y {b}; array t 2 {c}; array u 2 {d}; channel o {a b c d e f};
	func f {a b c d e f} (p {e}, q {f}) () { var v {a f}; var w {}; return; }
	func g {} () () { return; }
	func h {} (w {e}) () { var v {b}; var q {c}; var p {d}; return; }`

func TestExprOfEachSort(t *testing.T) { // P8.2
	s := parsed(t, scope)
	for text, want := range map[string]api.Label{
		"7": 0, "x": 1, "y": 2, "-x": 1, "x + y": 3, "y * y": 2, "x - 1": 1, "t[0]": 4, "u[1]": 8, "t[x]": 5, "t[u[y]]": 14, "!t[~x] << u[3]": 13,
		"x == 0": 1, "0 & y": 2, "x - x": 1, "(1 + 2) * 3": 0, "((x | 1) ^ y) % t[2]": 7,
	} {
		for f := range 3 {
			wantExpr(t, s, f, termsOf(t, text), want, true)
		}
	}
	for text, want := range map[string][3]api.Label{"p": {16, 0, 8}, "q": {32, 0, 4}, "v": {33, 0, 2}, "w": {0, 0, 16}, "p + q": {48, 0, 12}, "t[p + x]": {21, 0, 13}, "v + w": {33, 0, 18}} {
		for f, l := range want {
			wantExpr(t, s, f, termsOf(t, text), l, f != 1)
		}
	}
}

func TestExprOfNoFunction(t *testing.T) { // P8.2
	s := parsed(t, scope)
	for _, f := range []int{-1, 3, 4, 1 << 32, math.MaxInt, math.MinInt} {
		for _, e := range [][]api.Term{nil, termsOf(t, "1"), termsOf(t, "x"), termsOf(t, "t[x]"), termsOf(t, "nobody")} {
			wantExpr(t, s, f, e, 0, false)
		}
	}
}

// TestExprOfNamesThatAreNotFound has them ahead of, among and behind such as are found.
func TestExprOfNamesThatAreNotFound(t *testing.T) { // P8.2, P0.2
	s := parsed(t, scope)
	for _, text := range []string{"a", "z", "t", "o", "f", "g", "x[0]", "p[0]", "o[0]", "g[0]", "z[0]", "xx", "v1"} {
		for _, around := range []string{text, "x + " + text, text + " + x", "t[" + text + "]", "y * -" + text + " - t[x]"} {
			wantExpr(t, s, 0, termsOf(t, around), 0, false)
		}
	}
}

// TestExprOfAnyTerms has terms that make no expression, and such as have what their kinds don't name.
func TestExprOfAnyTerms(t *testing.T) { // P8.2
	s := parsed(t, scope)
	x, v, t3 := api.Term{Kind: api.TName, Name: "x"}, api.Term{Kind: api.TName, Name: "v"}, api.Term{Kind: api.TIndex, Name: "t"}
	wantExpr(t, s, 0, nil, 0, true)
	wantExpr(t, s, 0, []api.Term{}, 0, true)
	wantExpr(t, s, 0, []api.Term{t3}, 4, true)
	wantExpr(t, s, 0, []api.Term{x, v, t3}, 37, true)
	wantExpr(t, s, 0, []api.Term{{Kind: api.TBinary}, x, {Kind: api.TUnary, Value: 99}, {Kind: api.TNumber, Value: -5}}, 1, true)
	wantExpr(t, s, 0, []api.Term{{Kind: api.TName, Name: "y", Value: 3}, {Kind: api.TIndex, Name: "u", Value: -3}}, 10, true)
	for _, kind := range []int{api.TNumber, api.TUnary, api.TBinary, 0, -1, 6, 1 << 40} {
		for _, name := range []string{"x", "t", "o", "nobody", ""} {
			other := api.Term{Kind: kind, Name: name}
			wantExpr(t, s, 0, []api.Term{other}, 0, true)
			wantExpr(t, s, 0, []api.Term{v, other}, 33, true)
		}
	}
	for _, name := range []string{"", "1", "if", "X", "x ", "t[0]"} {
		wantExpr(t, s, 0, []api.Term{x, {Kind: api.TName, Name: name}}, 0, false)
		wantExpr(t, s, 0, []api.Term{x, {Kind: api.TIndex, Name: name}}, 0, false)
	}
	wantExpr(t, s, 2, slices.Repeat([]api.Term{x, v, t3}, 5000), 7, true)
}

// TestExprOfNamesThatAreTwice asks of sources that layer 7 finds faults in: what is found first counts.
func TestExprOfNamesThatAreTwice(t *testing.T) { // P8.2
	n := api.Term{Kind: api.TName, Name: "n"}
	index := api.Term{Kind: api.TIndex, Name: "n"}
	ask := func(s api.Source, of, element api.Label, isValue, isArray bool) {
		t.Helper()
		wantExpr(t, s, 0, []api.Term{n}, of, isValue)
		wantExpr(t, s, 0, []api.Term{index}, element, isArray)
	}
	two := func(first, second api.Label) []api.Decl {
		return []api.Decl{{Name: "n", Label: first}, {Name: "n", Label: second}}
	}
	s := api.Source{
		Globals: two(1, 2), Arrays: []api.ArrayDecl{{Name: "n", Label: 4}, {Name: "n", Label: 8}}, Channels: two(16, 32),
		Funcs: []api.FuncDecl{{Name: "n", Level: 64, Params: two(128, 256), Vars: two(512, 1024)}},
	}
	ask(s, 128, 0, true, false)
	s.Funcs[0].Params = nil
	ask(s, 512, 0, true, false)
	s.Funcs[0].Vars = nil
	ask(s, 1, 0, true, false)
	s.Globals = s.Globals[1:]
	ask(s, 2, 0, true, false)
	s.Globals = nil
	ask(s, 0, 4, false, true)
	s.Arrays = s.Arrays[1:]
	ask(s, 0, 8, false, true)
	s.Arrays = nil
	ask(s, 0, 0, false, false)
	s.Channels = nil
	ask(s, 0, 0, false, false)
	s.Funcs[0].Name = ""
	ask(s, 0, 0, false, false)
}
