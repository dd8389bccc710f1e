package flowtype_test

import (
	"reflect"
	"slices"
	"testing"

	"louver/api"
	"louver/flowtype"
	"louver/syntax"
)

// parsed is the source of a text that the syntax has no fault in.
func parsed(t *testing.T, text string) api.Source {
	t.Helper()
	s, f := syntax.Parse(text)
	if f != (api.Fault{}) {
		t.Fatalf("Parse of %q: %+v", text, f)
	}
	return s
}

// termsOf is what an expression's text is read as.
func termsOf(t *testing.T, text string) []api.Term {
	t.Helper()
	e, f := syntax.Expr(text)
	if f != (api.Fault{}) {
		t.Fatalf("Expr of %q: %+v", text, f)
	}
	return e
}

func leak(f, at int) api.Fault { return api.Fault{Err: api.ErrFlow, Func: f, At: at} }

func wantFault(t *testing.T, what string, s api.Source, want api.Fault) {
	t.Helper()
	if got := flowtype.Check(s); got != want {
		t.Errorf("%s: Check = %+v, want %+v", what, got, want)
	}
}

func wantExpr(t *testing.T, s api.Source, f int, e []api.Term, want api.Label, found bool) {
	t.Helper()
	if got, ok := flowtype.Expr(s, f, e); got != want || ok != found {
		t.Errorf("Expr of %+v in %d = %b, %t, want %b, %t", e, f, got, ok, want, found)
	}
}

func wantLevels(t *testing.T, s api.Source, f int, want ...api.Label) {
	t.Helper()
	if got := flowtype.Levels(s, f); !slices.Equal(got, want) {
		t.Errorf("Levels of %d in %+v = %b, want %b", f, s, got, want)
	}
}

// base is what the chapter's examples lean on.
const base = "principal a b; global x {a}; global y {}; channel c {}; "

func TestExamplesOfTheChapter(t *testing.T) { // P8.1
	for body, want := range map[string]api.Fault{
		"x = y;":           {},
		"y = x; send c x;": leak(0, 0),
		"x = y; send c x;": leak(0, 1),
		"if x { y = 1; }":  leak(0, 1),
		"if y { x = 1; } else { y = 2; } send c y;": {},
		"while x { x = x - 1; } y = 0;":             {},
	} {
		wantFault(t, body, parsed(t, base+"func f {} () () { "+body+" return; }"), want)
	}
	wantFault(t, "level {a}", parsed(t, base+"func f {a} () () { x = 1; y = 1; return; }"), leak(0, 1))
}

func TestLevelsOfTheChapter(t *testing.T) { // P8.3
	in := func(level, body string) api.Source {
		return parsed(t, base+"func f "+level+" () () { "+body+" return; }")
	}
	wantLevels(t, in("{}", "if x { y = 1; }"), 0, 0, 1, 0, 0)
	wantLevels(t, in("{}", "if y { x = 1; } else { y = 2; } send c y;"), 0, 0, 0, 0, 0, 0, 0, 0)
	wantLevels(t, in("{}", "while x { x = x - 1; } y = 0;"), 0, 0, 1, 0, 0, 0)
	wantLevels(t, in("{a}", "x = 1; y = 1;"), 0, 1, 1, 1)
}

func TestExprOfTheChapter(t *testing.T) { // P8.2
	s := parsed(t, base+"func f {} () () { return; }")
	wantExpr(t, s, 0, termsOf(t, "x + 1"), 1, true)
	wantExpr(t, s, 0, termsOf(t, "y"), 0, true)
	wantExpr(t, s, 0, termsOf(t, "nobody"), 0, false)
}

func TestExamplesOfTheWhole(t *testing.T) { // P3, P8.1
	outside := "principal a; global x {a}; channel c {}; "
	for text, want := range map[string]api.Fault{
		"":      {},
		outside: {},
		outside + "func f {} () () { send c x; return; }":                                    leak(0, 0),
		outside + "func f {} () () { if x { send c 1; } return; }":                           leak(0, 1),
		outside + "func f {} (n {a}) ({a}) { x = x + n; send c 7; return x; }":               {},
		outside + "func f {} (n {a}) () { while n { n = n - 1; } send c 1; return; }":        {},
		outside + "func f {} (n {a}) () { while n { n = n - 1; send c 1; } return; }":        leak(0, 2),
		outside + "func f {} (n {a}) ({}) { return n; }":                                     leak(0, 0),
		outside + "func f {} () () { x = 1; return; } func g {} () () { send c x; return; }": leak(1, 0),
	} {
		wantFault(t, text, parsed(t, text), want)
	}
}

// TestNamesComeFirst has labels that are not kept ahead of what layer 7 finds.
func TestNamesComeFirst(t *testing.T) { // P8.1, P0.1
	leaks := base + "func f {} () () { y = x; return; } "
	for text, want := range map[string]api.Fault{
		leaks: leak(0, 0),
		leaks + "func g {} () () { z = 1; return; }":                            {Err: api.ErrUnknown, Func: 1, At: 0},
		leaks + "func g {} () () { c = 1; return; }":                            {Err: api.ErrKind, Func: 1, At: 0},
		leaks + "func g {} () () { return 1; }":                                 {Err: api.ErrCount, Func: 1, At: 0},
		leaks + "func g {} (x {}) () { return; }":                               {Err: api.ErrTwice, Func: 1, At: -1},
		leaks + "func f {} () () { return; }":                                   {Err: api.ErrTwice, Func: -1, At: 6},
		"global x {}; array t 0 {}; " + "func f {} () () { x = t[0]; return; }": {Err: api.ErrArg, Func: -1, At: 1},
	} {
		wantFault(t, text, parsed(t, text), want)
	}
	s := parsed(t, leaks)
	s.Globals[0].Label = 4
	wantFault(t, "a label of nobody", s, api.Fault{Err: api.ErrPrincipal, Func: -1, At: 2})
	s = parsed(t, leaks)
	s.Funcs[0].Body = append(s.Funcs[0].Body, s.Funcs[0].Body[1])
	wantFault(t, "two returns", s, api.Fault{Err: api.ErrSyntax, Func: 0, At: -1})
	s.Funcs[0].Body = []api.Stmt{{Kind: api.SAssign}, {Kind: api.SReturn}}
	wantFault(t, "no target", s, api.Fault{Err: api.ErrSyntax, Func: 0, At: 0})
}

// TestFirstStatement mends what does not keep the labels from the front on: so what stands behind comes up next.
func TestFirstStatement(t *testing.T) { // P8.1
	rows := []struct {
		leaky, mended string
		f, at         int
	}{
		{"y = x;", "x = y;", 0, 0},
		{"t[0] = x;", "t[0] = y;", 0, 1},
		{"if x { send c 1; }", "if y { send c 1; }", 0, 3},
		{"while y { x = 1; y = x; }", "while y { x = 1; x = y; }", 0, 7},
		{"return x; }", "return y; }", 0, 9},
		{"func g {} () () { send c x;", "func g {} () () { send c y;", 1, 0},
		{"if x { f(); }", "if y { f(); }", 1, 2},
		{"return; } func h {} (n {a}) () { y = n;", "return; } func h {} (n {a}) () { x = n;", 2, 0},
	}
	mended := ""
	for i, first := range rows {
		text := base + "array t 4 {}; func f {} () ({}) { " + mended
		for _, r := range rows[i:] {
			text += r.leaky
		}
		wantFault(t, text, parsed(t, text+" return; }"), leak(first.f, first.at))
		mended += first.mended
	}
	text := base + "array t 4 {}; func f {} () ({}) { " + mended + " return; }"
	wantFault(t, text, parsed(t, text), api.Fault{})
}

func TestAnswersOfNothing(t *testing.T) { // P0.4, P1
	wantFault(t, "no source", api.Source{}, api.Fault{})
	wantExpr(t, api.Source{}, 0, nil, 0, false)
	wantLevels(t, api.Source{}, 0)
	empty := api.Source{Principals: []string{}, Globals: []api.Decl{}, Arrays: []api.ArrayDecl{}, Channels: []api.Decl{}, Funcs: []api.FuncDecl{}}
	wantFault(t, "empty lists", empty, api.Fault{})
	s := parsed(t, base+"func f {a} (n {}) () { if n { } return; }")
	if got := flowtype.Levels(s, 0); !reflect.DeepEqual(got, []api.Label{1, 1, 1}) {
		t.Errorf("Levels = %b", got)
	}
}
