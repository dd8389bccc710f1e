package sense_test

import (
	"fmt"
	"math"
	"slices"
	"testing"

	"louver/api"
	"louver/sense"
	"louver/syntax"
)

// plenty is a limit that no run of these tests comes to that ends by itself.
const plenty = 1 << 20

// parsed is the source of a text that the syntax has no fault in.
func parsed(t *testing.T, text string) api.Source {
	t.Helper()
	s, f := syntax.Parse(text)
	if f != (api.Fault{}) {
		t.Fatalf("Parse of %q: %+v", text, f)
	}
	return s
}

// termsOf is what an expression's text is read as.
func termsOf(t *testing.T, text string) []api.Term {
	t.Helper()
	e, f := syntax.Expr(text)
	if f != (api.Fault{}) {
		t.Fatalf("Expr of %q: %+v", text, f)
	}
	return e
}

// told is an outcome as a text; no list and an empty list have the same one.
func told(o api.Outcome) string { return fmt.Sprintf("%+v", o) }

func wantOutcome(t *testing.T, what string, got, want api.Outcome) {
	t.Helper()
	if told(got) != told(want) {
		t.Errorf("%s:\n\t%.1000s, want\n\t%.1000s", what, told(got), told(want))
	}
}

func alone(err api.Errno) api.Outcome { return api.Outcome{Err: err} }

func rows(l ...[]int64) [][]int64 { return l }

func wantValue(t *testing.T, what string, s api.Source, f int, e []api.Term, locals []int64, memory api.Memory, want int64, is bool) {
	t.Helper()
	if got, ok := sense.Eval(s, f, e, locals, memory); got != want || ok != is {
		t.Errorf("%s: Eval = %d, %t, want %d, %t", what, got, ok, want, is)
	}
}

// chapter is the source of the chapter's examples.
const chapter = `global x {}; array t 2 {}; channel c {};
	func f {} (n {}) ({}) { var k {}; while n { k = k + n; n = n - 1; } send c k; t[k] = 7; x = t[5]; return k; }
	func g {} () () { g(); return; }`

func TestRunsOfTheChapter(t *testing.T) { // P9.1
	s := parsed(t, chapter)
	zeros := func() api.Memory { return api.Memory{Globals: []int64{0}, Arrays: rows([]int64{0, 0})} }
	wantOutcome(t, "f 3", sense.Run(s, 0, []int64{3}, zeros(), plenty), api.Outcome{Results: []int64{6}, Memory: zeros(), Logs: rows([]int64{6}), Steps: 50})
	nought := api.Outcome{Results: []int64{0}, Memory: api.Memory{Globals: []int64{0}, Arrays: rows([]int64{7, 0})}, Logs: rows([]int64{0}), Steps: 14}
	wantOutcome(t, "f 0", sense.Run(s, 0, []int64{0}, zeros(), plenty), nought)
	wantOutcome(t, "f 0, limit 14", sense.Run(s, 0, []int64{0}, zeros(), 14), nought)
	nought.Err, nought.Results, nought.Steps = api.ErrFuel, nil, 13
	wantOutcome(t, "f 0, limit 13", sense.Run(s, 0, []int64{0}, zeros(), 13), nought)
	wantOutcome(t, "f 0, limit 0", sense.Run(s, 0, []int64{0}, zeros(), 0), api.Outcome{Err: api.ErrFuel, Memory: zeros(), Logs: rows(nil)})
	deep := api.Outcome{Err: api.ErrDepth, Memory: zeros(), Logs: rows(nil), Steps: 128}
	wantOutcome(t, "g", sense.Run(s, 1, nil, zeros(), plenty), deep)
	wantOutcome(t, "g, limit 128", sense.Run(s, 1, nil, zeros(), 128), deep)
	deep.Err, deep.Steps = api.ErrFuel, 127
	wantOutcome(t, "g, limit 127", sense.Run(s, 1, nil, zeros(), 127), deep)
	wantOutcome(t, "two arguments", sense.Run(s, 0, []int64{1, 2}, zeros(), plenty), alone(api.ErrArg))
	wantOutcome(t, "no memory", sense.Run(s, 0, []int64{1}, api.Memory{}, plenty), alone(api.ErrArg))
}

func TestEvalOfTheChapter(t *testing.T) { // P9.2
	s := parsed(t, chapter)
	e := termsOf(t, "n + 2")
	wantValue(t, "two locals", s, 0, e, []int64{5, 0}, sense.Zero(s), 7, true)
	wantValue(t, "one local", s, 0, e, []int64{5}, sense.Zero(s), 0, false)
}

func TestExamplesOfTheWhole(t *testing.T) { // P9.1
	outside := "principal a; global x {a}; channel c {}; "
	s := parsed(t, outside+"func f {} (n {a}) ({a}) { x = x + n; send c 7; return x; }")
	wantOutcome(t, "the third", sense.Run(s, 0, []int64{5}, sense.Zero(s), plenty), api.Outcome{Results: []int64{5}, Memory: api.Memory{Globals: []int64{5}}, Logs: rows([]int64{7}), Steps: 10})
	s = parsed(t, "channel c {}; channel d {}; func f {} (n {}) () { send c n; f(n + 1); send d n; return; }")
	o := sense.Run(s, 0, []int64{1}, sense.Zero(s), plenty)
	if o.Err != api.ErrDepth || len(o.Logs) != 2 || len(o.Logs[0]) != 64 || o.Logs[0][63] != 64 || len(o.Logs[1]) != 0 || o.Steps != 64*7 {
		t.Errorf("without end: %s", told(o))
	}
	s = parsed(t, outside+"func f {} (n {a}) () { while n { n = n - 1; } send c 1; return; }")
	for _, n := range []int64{0, 1, 1000} {
		o := sense.Run(s, 0, []int64{n}, sense.Zero(s), plenty)
		wantOutcome(t, "a loop", o, api.Outcome{Memory: sense.Zero(s), Logs: rows([]int64{1}), Steps: 6 + 7*uint64(n)})
	}
	wantOutcome(t, "a loop without end", sense.Run(s, 0, []int64{-1}, sense.Zero(s), plenty), api.Outcome{Err: api.ErrFuel, Memory: sense.Zero(s), Logs: rows(nil), Steps: plenty})
}

// TestFaultsOfNames has what is ErrArg, too: the fault is named first.
func TestFaultsOfNames(t *testing.T) { // P9.1, P9.2, P0.1, P0.2
	ask := func(what string, s api.Source, want api.Errno) {
		t.Helper()
		for _, f := range []int{0, 1, -1} {
			wantOutcome(t, what, sense.Run(s, f, nil, sense.Zero(s), plenty), alone(want))
			wantOutcome(t, what, sense.Run(s, f, []int64{1, 2}, api.Memory{}, 0), alone(want))
			wantValue(t, what, s, f, termsOf(t, "1"), nil, sense.Zero(s), 0, false)
		}
	}
	for text, want := range map[string]api.Errno{
		"func f {} () () { x = 1; return; }":                           api.ErrUnknown,
		"channel c {}; func f {} () () { c = 1; return; }":             api.ErrKind,
		"func f {} () () { return 1; }":                                api.ErrCount,
		"func f {} () () { f(1); return; }":                            api.ErrCount,
		"global x {}; global x {}; func f {} () () { return; }":        api.ErrTwice,
		"array t 0 {}; func f {} () () { return; }":                    api.ErrArg,
		"array t 257 {}; func f {} () () { return; }":                  api.ErrArg,
		"func f {} () () { return; } func g {} () () { h(); return; }": api.ErrUnknown,
	} {
		ask(text, parsed(t, text), want)
	}
	good := func() api.Source {
		return parsed(t, "principal a; global x {}; func f {} () () { x = 1; return; }")
	}
	s := good()
	s.Globals[0].Label = 2
	ask("a label of nobody", s, api.ErrPrincipal)
	s = good()
	s.Funcs[0].Body = append(s.Funcs[0].Body, s.Funcs[0].Body[0])
	ask("a statement behind the return", s, api.ErrSyntax)
	s = good()
	s.Funcs[0].Body = nil
	ask("no statements", s, api.ErrSyntax)
	s = good()
	s.Funcs[0].Body[0].Targets = nil
	ask("no target", s, api.ErrSyntax)
	s = good()
	s.Funcs[0].Vars = make([]api.Decl, api.MaxLocals+1)
	ask("many vars", s, api.ErrMany)
	s = good()
	s.Funcs[0].Body[0].Exprs[0] = slices.Repeat([]api.Term{{Kind: api.TUnary, Value: api.OpNeg}}, 2)
	ask("an expression that is not whole", s, api.ErrSyntax)
}

// TestLeaksRunToo has a source that does not keep its labels: a run does not look at these.
func TestLeaksRunToo(t *testing.T) { // P9.1
	s := parsed(t, "principal a b; global x {a}; array t 1 {b}; channel c {}; func f {} (n {b}) ({}) { if x { send c n; t[0] = x; } return t[0]; }")
	memory := api.Memory{Globals: []int64{3}, Arrays: rows([]int64{4})}
	want := api.Outcome{Results: []int64{3}, Memory: api.Memory{Globals: []int64{3}, Arrays: rows([]int64{3})}, Logs: rows([]int64{9}), Steps: 11}
	wantOutcome(t, "a leak", sense.Run(s, 0, []int64{9}, memory, plenty), want)
}

// scene declares things of each kind, two of most; f has three locals, g none.
const scene = `global x {}; global y {}; array t 3 {}; array u 1 {}; channel c {}; channel d {};
	func f {} (p {}, q {}) () { var v {}; return; } func g {} () ({}) { return 1; } `

func sceneMemory() api.Memory {
	return api.Memory{Globals: []int64{10, 20}, Arrays: rows([]int64{1, 2, 3}, []int64{4})}
}

// misfits are memories that do not fit the scene.
func misfits() []api.Memory {
	m := make([]api.Memory, 11)
	for k := range m {
		m[k] = sceneMemory()
	}
	m[0] = api.Memory{}
	m[1].Globals = nil
	m[2].Globals = []int64{1}
	m[3].Globals = []int64{1, 2, 3}
	m[4].Arrays = nil
	m[5].Arrays = m[5].Arrays[:1]
	m[6].Arrays = append(m[6].Arrays, nil)
	m[7].Arrays[0] = []int64{1, 2}
	m[8].Arrays[1] = []int64{1, 2}
	m[9].Arrays[1] = nil
	slices.Reverse(m[10].Arrays)
	return m
}

func TestWrongArguments(t *testing.T) { // P9.1, P9.2, P0.2
	s := parsed(t, scene)
	one := termsOf(t, "1")
	wantOutcome(t, "f", sense.Run(s, 0, []int64{1, 2}, sceneMemory(), plenty), api.Outcome{Memory: sceneMemory(), Logs: rows(nil, nil), Steps: 2})
	wantOutcome(t, "g", sense.Run(s, 1, nil, sceneMemory(), plenty), api.Outcome{Results: []int64{1}, Memory: sceneMemory(), Logs: rows(nil, nil), Steps: 3})
	wantValue(t, "f", s, 0, one, []int64{1, 2, 3}, sceneMemory(), 1, true)
	wantValue(t, "g", s, 1, one, nil, sceneMemory(), 1, true)
	for _, limit := range []uint64{0, 1, plenty, math.MaxUint64} {
		for _, f := range []int{-1, 2, 3, 1 << 32, math.MinInt, math.MaxInt} {
			for _, n := range []int{0, 2, 3} {
				wantOutcome(t, fmt.Sprint("no function ", f), sense.Run(s, f, make([]int64, n), sceneMemory(), limit), alone(api.ErrArg))
				wantValue(t, fmt.Sprint("no function ", f), s, f, one, make([]int64, n), sceneMemory(), 0, false)
			}
		}
		for n := range 6 {
			if n != 2 {
				wantOutcome(t, fmt.Sprint(n, " arguments"), sense.Run(s, 0, make([]int64, n), sceneMemory(), limit), alone(api.ErrArg))
			}
			if n != 3 {
				wantValue(t, fmt.Sprint(n, " locals"), s, 0, one, make([]int64, n), sceneMemory(), 0, false)
			}
		}
		wantOutcome(t, "an argument", sense.Run(s, 1, []int64{0}, sceneMemory(), limit), alone(api.ErrArg))
		wantValue(t, "a local", s, 1, one, []int64{0}, sceneMemory(), 0, false)
		for k, m := range misfits() {
			wantOutcome(t, fmt.Sprint("misfit ", k), sense.Run(s, 0, []int64{1, 2}, m, limit), alone(api.ErrArg))
			wantOutcome(t, fmt.Sprint("misfit ", k), sense.Run(s, 1, nil, m, limit), alone(api.ErrArg))
			wantValue(t, fmt.Sprint("misfit ", k), s, 0, one, []int64{1, 2, 3}, m, 0, false)
		}
	}
}

func TestNothing(t *testing.T) { // P1, P0.4
	wantOutcome(t, "no source", sense.Run(api.Source{}, 0, nil, api.Memory{}, plenty), alone(api.ErrArg))
	wantValue(t, "no source", api.Source{}, 0, termsOf(t, "1"), nil, api.Memory{}, 0, false)
	s := parsed(t, "func f {} () () { return; }")
	for _, m := range []api.Memory{{}, {Globals: []int64{}, Arrays: rows()}} {
		for _, args := range [][]int64{nil, {}} {
			wantOutcome(t, "nothing", sense.Run(s, 0, args, m, plenty), api.Outcome{Steps: 2})
			wantOutcome(t, "nothing, limit 1", sense.Run(s, 0, args, m, 1), api.Outcome{Err: api.ErrFuel, Steps: 1})
			wantValue(t, "nothing", s, 0, termsOf(t, "-1"), args, m, -1, true)
		}
	}
}

func TestZero(t *testing.T) { // P9.3
	wantZero := func(s api.Source, globals int, lengths ...int) {
		t.Helper()
		m := sense.Zero(s)
		if len(m.Globals) != globals || len(m.Arrays) != len(lengths) {
			t.Errorf("%d globals and %d arrays, want %d and %d", len(m.Globals), len(m.Arrays), globals, len(lengths))
			return
		}
		for k, row := range slices.Concat(m.Arrays, rows(m.Globals)) {
			if k < len(lengths) && len(row) != lengths[k] || slices.ContainsFunc(row, func(v int64) bool { return v != 0 }) {
				t.Errorf("row %d: %v", k, row)
			}
		}
	}
	wantZero(api.Source{}, 0)
	wantZero(parsed(t, chapter), 1, 2)
	wantZero(parsed(t, scene), 2, 3, 1)
	wantZero(parsed(t, "array t 1 {}; array u 256 {};"), 0, 1, 256)
	// The lengths, and how many there are, may be any: layer 7 has faults in these.
	wantZero(api.Source{Arrays: []api.ArrayDecl{{Len: 0}, {Len: -1}, {Len: 257}, {Len: math.MaxInt}, {Len: math.MinInt}, {Len: 255}}}, 0, 0, 0, 256, 256, 0, 255)
	wantZero(api.Source{Globals: make([]api.Decl, 1000), Arrays: make([]api.ArrayDecl, 3), Channels: make([]api.Decl, 7), Funcs: make([]api.FuncDecl, 9)}, 1000, 0, 0, 0)
	s := parsed(t, scene)
	wantOutcome(t, "zeros fit", sense.Run(s, 1, nil, sense.Zero(s), plenty), api.Outcome{Results: []int64{1}, Memory: sense.Zero(s), Logs: rows(nil, nil), Steps: 3})
}
