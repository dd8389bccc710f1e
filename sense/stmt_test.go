package sense_test

import (
	"fmt"
	"strings"
	"testing"

	"louver/api"
	"louver/sense"
)

// helpers are functions that bodies of the tests call; each begins with its vars at 0.
const helpers = `
	func none {} () () { return; }
	func one {} () ({}) { return 5; }
	func two {} (a {}, b {}) ({}, {}) { return a - b, a * 10 + b; }
	func three {} () ({}, {}, {}) { x = x + 1; send d x; return 1, 2, x; }
	func own {} (p {}) ({}) { var v {}; v = v + p; p = p * 2; send d v; return p; }
	func sum {} (n {}) ({}) { var k {}; if n { k = sum(n - 1); } return k + n; }
	func odd {} (n {}) ({}) { var k {}; if n { k = even(n - 1); } return k; }
	func even {} (n {}) ({}) { var k {}; k = 1; if n { k = odd(n - 1); } return k; }`

const things = "global x {}; global y {}; array t 3 {}; array u 1 {}; channel c {}; channel d {};"

// after runs a body in a function with the parameters p 3 and q -4, the vars v and w, and results as many as there are expressions.
func after(t *testing.T, body, results string) api.Outcome {
	t.Helper()
	labels := ""
	if results != "" {
		labels = "{}" + strings.Repeat(", {}", strings.Count(results, ","))
	}
	s := parsed(t, things+"func f {} (p {}, q {}) ("+labels+") { var v {}; var w {}; "+body+" return "+results+"; }"+helpers)
	return sense.Run(s, 0, []int64{3, -4}, sceneMemory(), plenty)
}

// state is what a run did, in short: globals, arrays, logs, results.
func state(o api.Outcome) string {
	return fmt.Sprint(o.Memory.Globals, o.Memory.Arrays, o.Logs, o.Results)
}

// wantState runs bodies; the results are told behind a bar.
func wantState(t *testing.T, table map[string]string) {
	t.Helper()
	for text, want := range table {
		body, results, _ := strings.Cut(text, " | ")
		o := after(t, body, results)
		if o.Err != api.OK || state(o) != want {
			t.Errorf("%s: error %d, %s, want %s", text, o.Err, state(o), want)
		}
	}
}

func TestAssignments(t *testing.T) { // P9.1
	wantState(t, map[string]string{
		" | ":                              "[10 20] [[1 2 3] [4]] [[] []] []",
		"x = 7; | ":                        "[7 20] [[1 2 3] [4]] [[] []] []",
		"y = x; x = y + 1; | x, y":         "[11 10] [[1 2 3] [4]] [[] []] [11 10]",
		"v = 7; | p, q, v, w":              "[10 20] [[1 2 3] [4]] [[] []] [3 -4 7 0]",
		"w = p; p = q; q = w; | p, q, v":   "[10 20] [[1 2 3] [4]] [[] []] [-4 3 0]",
		"x = x + x; x = x + x; | x":        "[40 20] [[1 2 3] [4]] [[] []] [40]",
		"x = p; y = q; v = x; w = y; | v":  "[3 -4] [[1 2 3] [4]] [[] []] [3]",
		"v = 1; w = v + 1; v = v + w; | v": "[10 20] [[1 2 3] [4]] [[] []] [3]",
	})
}

func TestStores(t *testing.T) { // P9.1
	wantState(t, map[string]string{
		"t[0] = 7; | ":                      "[10 20] [[7 2 3] [4]] [[] []] []",
		"t[2] = 7; u[0] = 8; | ":            "[10 20] [[1 2 7] [8]] [[] []] []",
		"t[3] = 7; | t[3]":                  "[10 20] [[1 2 3] [4]] [[] []] [0]",
		"t[-1] = 7; u[1] = 7; u[256] = 7; ": "[10 20] [[1 2 3] [4]] [[] []] []",
		"t[9223372036854775807] = 7; t[-9223372036854775807 - 1] = 7; u[4294967296] = 7; ": "[10 20] [[1 2 3] [4]] [[] []] []",
		"t[t[0]] = t[t[1]]; | t[0], t[1], t[2]":                                            "[10 20] [[1 3 3] [4]] [[] []] [1 3 3]",
		"t[p - 1] = q; t[0] = x; | ":                                                       "[10 20] [[10 2 -4] [4]] [[] []] []",
		"v = 1; t[v] = v + 1; t[t[v]] = t[v] + 5; | ":                                      "[10 20] [[1 2 7] [4]] [[] []] []",
	})
}

func TestSends(t *testing.T) { // P9.1
	wantState(t, map[string]string{
		"send c 1; | ": "[10 20] [[1 2 3] [4]] [[1] []] []",
		"send d 1; send d 1; send c x; send d p; | ":      "[10 20] [[1 2 3] [4]] [[10] [1 1 3]] []",
		"send c t[1]; x = 1; send c x; send c -t[9]; | x": "[1 20] [[1 2 3] [4]] [[2 1 0] []] [1]",
	})
}

func TestCalls(t *testing.T) { // P9.1
	wantState(t, map[string]string{
		"none(); | ":                   "[10 20] [[1 2 3] [4]] [[] []] []",
		"one(); | ":                    "[10 20] [[1 2 3] [4]] [[] []] []",
		"x = one(); v = one(); | v":    "[5 20] [[1 2 3] [4]] [[] []] [5]",
		"x, y = two(9, 2); | ":         "[7 92] [[1 2 3] [4]] [[] []] []",
		"v, w = two(p, q); | v, w":     "[10 20] [[1 2 3] [4]] [[] []] [7 26]",
		"two(1, 2); | x":               "[10 20] [[1 2 3] [4]] [[] []] [10]",
		"y, v = two(x, t[2]); | y, v":  "[10 7] [[1 2 3] [4]] [[] []] [7 103]",
		"x, y = two(y, x); | ":         "[10 210] [[1 2 3] [4]] [[] []] []",
		"v, v = two(9, 2); | v":        "[10 20] [[1 2 3] [4]] [[] []] [7]",
		"x, y, x = three(); | x, y":    "[1 2] [[1 2 3] [4]] [[] [11]] [1 2]",
		"x, x, y = three(); | x, y":    "[1 11] [[1 2 3] [4]] [[] [11]] [1 11]",
		"y, x, x = three(); | x, y":    "[2 1] [[1 2 3] [4]] [[] [11]] [2 1]",
		"three(); three(); | ":         "[12 20] [[1 2 3] [4]] [[] [11 12]] []",
		"v = own(p); w = own(p); | p":  "[10 20] [[1 2 3] [4]] [[] [3 3]] [3]",
		"p = own(p); p = own(p); | p":  "[10 20] [[1 2 3] [4]] [[] [3 6]] [12]",
		"v = 100; own(v); | v, p":      "[10 20] [[1 2 3] [4]] [[] [100]] [100 3]",
		"x = sum(62); | ":              "[1953 20] [[1 2 3] [4]] [[] []] []",
		"v = sum(p); w = sum(0); | v":  "[10 20] [[1 2 3] [4]] [[] []] [6]",
		"x = odd(7); y = even(7); | ":  "[1 0] [[1 2 3] [4]] [[] []] []",
		"x = odd(60); y = odd(61); | ": "[0 1] [[1 2 3] [4]] [[] []] []",
	})
}

func TestBranches(t *testing.T) { // P9.1
	wantState(t, map[string]string{
		"if 1 { x = 1; } y = 2; | ":                      "[1 2] [[1 2 3] [4]] [[] []] []",
		"if 0 { x = 1; } y = 2; | ":                      "[10 2] [[1 2 3] [4]] [[] []] []",
		"if -1 { x = 1; } else { x = 2; } y = 2; | ":     "[1 2] [[1 2 3] [4]] [[] []] []",
		"if !p { x = 1; } else { x = 2; } y = 3; | ":     "[2 3] [[1 2 3] [4]] [[] []] []",
		"if v { } else { x = 2; } | ":                    "[2 20] [[1 2 3] [4]] [[] []] []",
		"if p { } else { x = 2; } | ":                    "[10 20] [[1 2 3] [4]] [[] []] []",
		"if p { x = 1; } else { } | ":                    "[1 20] [[1 2 3] [4]] [[] []] []",
		"if v { x = 1; } else { } y = 1; | ":             "[10 1] [[1 2 3] [4]] [[] []] []",
		"if 4294967296 { x = 1; } | ":                    "[1 20] [[1 2 3] [4]] [[] []] []",
		"if p { p = 0; x = 1; } else { x = 2; } | p":     "[1 20] [[1 2 3] [4]] [[] []] [0]",
		"if v { x = 1; } else { v = 1; x = x + 1; } | v": "[11 20] [[1 2 3] [4]] [[] []] [1]",
		"if 1 { if 0 { x = 1; } else { x = 2; } y = 3; } else { if 1 { x = 4; } else { x = 5; } y = 6; } | ": "[2 3] [[1 2 3] [4]] [[] []] []",
		"if 0 { if 0 { x = 1; } else { x = 2; } y = 3; } else { if 1 { x = 4; } else { x = 5; } y = 6; } | ": "[4 6] [[1 2 3] [4]] [[] []] []",
		"if 1 { if 0 { x = 1; } } else { x = 2; } | ":                                                        "[10 20] [[1 2 3] [4]] [[] []] []",
		"if 0 { if 1 { x = 1; } else { x = 3; } } | ":                                                        "[10 20] [[1 2 3] [4]] [[] []] []",
	})
}

func TestLoops(t *testing.T) { // P9.1
	wantState(t, map[string]string{
		"while 0 { x = 1; } y = 2; | ":                                                           "[10 2] [[1 2 3] [4]] [[] []] []",
		"while p { send c p; p = p - 1; } y = 2; | p":                                            "[10 2] [[1 2 3] [4]] [[3 2 1] []] [0]",
		"while q { send c q; q = q + 1; } | q":                                                   "[10 20] [[1 2 3] [4]] [[-4 -3 -2 -1] []] [0]",
		"while v < 3 { w = 0; while w < v { send d v * 10 + w; w = w + 1; } v = v + 1; } | v, w": "[10 20] [[1 2 3] [4]] [[] [10 20 21]] [3 2]",
		"while p { if p == 2 { send c 1; } else { send d p; } p = p - 1; } | ":                   "[10 20] [[1 2 3] [4]] [[1] [3 1]] []",
		"while p { while p { p = p - 1; } send c p; } | ":                                        "[10 20] [[1 2 3] [4]] [[0] []] []",
		"if p { while p { p = p - 1; } } else { while 1 { } } send c p; | ":                      "[10 20] [[1 2 3] [4]] [[0] []] []",
		"if v { while 1 { } } else { while x { x = x - 1; } } | ":                                "[0 20] [[1 2 3] [4]] [[] []] []",
		"while x { x = x >> 1; t[v] = x; v = v + 1; } | v":                                       "[0 20] [[5 2 1] [4]] [[] []] [4]",
		"while p { p = p - 1; v = own(p); w = w + v; } | w":                                      "[10 20] [[1 2 3] [4]] [[] [2 1 0]] [6]",
		"while 0 { while 1 { } } while v { } | ":                                                 "[10 20] [[1 2 3] [4]] [[] []] []",
	})
}

func TestReturns(t *testing.T) { // P9.1
	wantState(t, map[string]string{
		" | 1":                        "[10 20] [[1 2 3] [4]] [[] []] [1]",
		" | 4, 3, 2, 1":               "[10 20] [[1 2 3] [4]] [[] []] [4 3 2 1]",
		" | x, p, t[1], x - p":        "[10 20] [[1 2 3] [4]] [[] []] [10 3 2 7]",
		"x = 1; v = 2; | v, x, v + x": "[1 20] [[1 2 3] [4]] [[] []] [2 1 3]",
		" | p - q, q - p, -q, ~p":     "[10 20] [[1 2 3] [4]] [[] []] [7 -7 4 -4]",
	})
}

// TestUses: behind the body's own uses there are one for the function, and one for its return.
func TestUses(t *testing.T) { // P9.1
	for body, want := range map[string]uint64{
		"":                                   0,
		"x = 1;":                             3,
		"v = x + y;":                         5,
		"t[0] = 1;":                          3,
		"t[9] = 1;":                          3,
		"t[x + 1] = t[0];":                   6,
		"send c 1;":                          2,
		"send c -(x + 1) * t[2];":            8,
		"none();":                            3,
		"one();":                             4,
		"x = one();":                         5,
		"two(1, 2);":                         13,
		"x, y = two(x + 1, 2);":              17,
		"x, x = two(1, 2);":                  15,
		"x, y, v = three();":                 16,
		"if 0 { x = 1; }":                    2,
		"if 1 { x = 1; }":                    5,
		"if 1 { }":                           2,
		"if x - x { } else { }":              4,
		"if 0 { x = 1; } else { }":           2,
		"if 0 { x = 1; } else { x = y; }":    5,
		"if 1 { x = 1; } else { x = y; }":    5,
		"while 0 { x = 1; }":                 2,
		"while p { p = p - 1; }":             23,
		"while p { p = 0; }":                 7,
		"while p { while p { p = 0; } }":     11,
		"while p { if p { p = 0; } }":        9,
		"if p { while p { p = 0; } } p = 1;": 12,
		"x = sum(0);":                        10,
		"x = sum(2);":                        34,
	} {
		if o := after(t, body, ""); o.Err != api.OK || o.Steps != want+2 {
			t.Errorf("%s: error %d, %d uses, want %d", body, o.Err, o.Steps, want+2)
		}
	}
	if o := after(t, "", "1, x, x + 1, t[t[0]]"); o.Steps != 2+8 {
		t.Errorf("a return of several: %d uses", o.Steps)
	}
}

// TestEachLimit tells what is done at each limit: a rule's use comes ahead of what it does, and what wants no use more is done behind the last one.
func TestEachLimit(t *testing.T) { // P9.1, P9.4
	s := parsed(t, things+"func f {} (p {}) ({}) { x = p; t[1] = 7; send c 8; if x { x, y = g(9); } return y; } func g {} (n {}) ({}, {}) { send d n; return n, 6; }")
	for limit, want := range []string{
		0:  "[10 20] [[1 2 3] [4]] [[] []] []", // nothing is entered
		1:  "[10 20] [[1 2 3] [4]] [[] []] []",
		2:  "[10 20] [[1 2 3] [4]] [[] []] []",
		3:  "[10 20] [[1 2 3] [4]] [[] []] []", // p is known
		4:  "[5 20] [[1 2 3] [4]] [[] []] []",  // x has it
		5:  "[5 20] [[1 2 3] [4]] [[] []] []",
		6:  "[5 20] [[1 2 3] [4]] [[] []] []", // the index
		7:  "[5 20] [[1 7 3] [4]] [[] []] []", // the value, and so the store
		8:  "[5 20] [[1 7 3] [4]] [[] []] []",
		9:  "[5 20] [[1 7 3] [4]] [[8] []] []",
		10: "[5 20] [[1 7 3] [4]] [[8] []] []", // the if
		11: "[5 20] [[1 7 3] [4]] [[8] []] []",
		12: "[5 20] [[1 7 3] [4]] [[8] []] []", // the call
		13: "[5 20] [[1 7 3] [4]] [[8] []] []",
		14: "[5 20] [[1 7 3] [4]] [[8] []] []", // g is entered
		15: "[5 20] [[1 7 3] [4]] [[8] []] []",
		16: "[5 20] [[1 7 3] [4]] [[8] [9]] []",
		17: "[5 20] [[1 7 3] [4]] [[8] [9]] []", // g's return
		18: "[5 20] [[1 7 3] [4]] [[8] [9]] []",
		19: "[5 20] [[1 7 3] [4]] [[8] [9]] []",
		20: "[5 6] [[1 7 3] [4]] [[8] [9]] []", // the last target first
		21: "[9 6] [[1 7 3] [4]] [[8] [9]] []",
		22: "[9 6] [[1 7 3] [4]] [[8] [9]] []", // f's return
		23: "[9 6] [[1 7 3] [4]] [[8] [9]] [6]",
		24: "[9 6] [[1 7 3] [4]] [[8] [9]] [6]",
	} {
		o := sense.Run(s, 0, []int64{5}, sceneMemory(), uint64(limit))
		err, steps := api.ErrFuel, uint64(limit)
		if limit >= 23 {
			err, steps = api.OK, 23
		}
		if o.Err != err || o.Steps != steps || state(o) != want {
			t.Errorf("limit %d: error %d, steps %d, %s, want %s", limit, o.Err, o.Steps, state(o), want)
		}
	}
}

// TestDepth goes to the edge: 64 frames may live, f's among them.
func TestDepth(t *testing.T) { // P9.1
	s := parsed(t, things+`func f {} (n {}) ({}) { var k {}; if n { k = f(n - 1); } x = x + 1; return k + 1; }
		func h {} (n {}) () { var k {}; k = f(n); send c k; return; }
		func twice {} (n {}) () { var k {}; k = f(n); k = f(n); send c k; return; }`)
	at := func(f int, n int64) api.Outcome {
		return sense.Run(s, f, []int64{n}, api.Memory{Globals: []int64{0, 0}, Arrays: sceneMemory().Arrays}, plenty)
	}
	for f, most := range []int64{63, 62, 62} {
		if o := at(f, most); o.Err != api.OK {
			t.Errorf("%d frames: error %d", api.MaxDepth, o.Err)
		}
		// Nothing behind the call is done in any frame; but twice's second call is made at all, and ends the run.
		for _, n := range []int64{most + 1, most + 2, -1} {
			if o := at(f, n); o.Err != api.ErrDepth || o.Memory.Globals[0] != 0 || len(o.Results) > 0 || len(o.Logs[0]) > 0 {
				t.Errorf("too deep: %s", told(o))
			}
		}
	}
	// Each frame has its entry, the if with a term, and the call with three; if that returns, its target, the assignment, and the return with three.
	if o := at(0, 64); o.Steps != 64*7 {
		t.Errorf("too deep behind %d uses", o.Steps)
	}
	if o := at(0, 63); o.Steps != 63*17+12 || o.Memory.Globals[0] != 64 || o.Results[0] != 64 {
		t.Errorf("as deep as may be: %s", told(o))
	}
	if o := at(2, 62); o.Memory.Globals[0] != 126 || o.Logs[0][0] != 63 {
		t.Errorf("twice: %s", told(o))
	}
}

// TestDepthAheadOfFuel: a call where 64 frames live ends the run without a use more.
func TestDepthAheadOfFuel(t *testing.T) { // P9.1, P9.4
	s := parsed(t, "channel c {}; func f {} (n {}) () { send c n; f(n + 1); return; }")
	const uses = 64 * 7
	for limit, want := range map[uint64]api.Errno{uses - 1: api.ErrFuel, uses: api.ErrDepth, uses + 1: api.ErrDepth} {
		o := sense.Run(s, 0, []int64{0}, api.Memory{}, limit)
		if o.Err != want || o.Steps != min(limit, uses) || len(o.Logs[0]) != 64 {
			t.Errorf("limit %d: %s", limit, told(o))
		}
	}
}
