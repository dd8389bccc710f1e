package print_test

import (
	"strings"
	"testing"

	"louver/api"
	"louver/print"
	"louver/syntax"
)

func num(n int64) api.Term { return api.Term{Kind: api.TNumber, Value: n} }

func named(s string) api.Term { return api.Term{Kind: api.TName, Name: s} }

func index(s string) api.Term { return api.Term{Kind: api.TIndex, Name: s} }

func unary(op int64) api.Term { return api.Term{Kind: api.TUnary, Value: op} }

func binary(op int64) api.Term { return api.Term{Kind: api.TBinary, Value: op} }

func terms(l ...api.Term) []api.Term { return l }

// wantExpr asks for a text and a level.
func wantExpr(t *testing.T, want string, level int, l ...api.Term) {
	t.Helper()
	if got, ok := print.Expr(l); got != want || !ok {
		t.Errorf("Expr of %+v = %q, %t, want %q", l, got, ok, want)
	}
	if got := print.Level(l); got != level {
		t.Errorf("Level of %+v = %d, want %d", l, got, level)
	}
}

func wantNoExpr(t *testing.T, l ...api.Term) {
	t.Helper()
	if got, ok := print.Expr(l); got != "" || ok {
		t.Errorf("Expr of %+v = %q, %t, want none", l, got, ok)
	}
	if got := print.Level(l); got != -1 {
		t.Errorf("Level of %+v = %d, want -1", l, got)
	}
}

// wantText asks for these lines, and that they are read as the source.
func wantText(t *testing.T, s api.Source, lines ...string) {
	t.Helper()
	want := ""
	for _, l := range lines {
		want += l + "\n"
	}
	got, err := print.Source(s)
	if got != want || err != api.OK {
		t.Errorf("Source = %d and\n%swant\n%s", err, got, want)
	}
	if read, f := syntax.Parse(got); f != (api.Fault{}) || !equal(read, s) {
		t.Errorf("Parse of Source: %+v and another source:\n%s", f, got)
	}
}

func wantErr(t *testing.T, s api.Source, want api.Errno) {
	t.Helper()
	if text, err := print.Source(s); text != "" || err != want {
		t.Errorf("Source of %.300s = %d bytes, %d, want %d", modelText(s), len(text), err, want)
	}
}

// withBody is a source of one function.
func withBody(body ...api.Stmt) api.Source {
	return api.Source{Funcs: []api.FuncDecl{{Name: "f", Body: body}}}
}

func ret(l ...[]api.Term) api.Stmt { return api.Stmt{Kind: api.SReturn, Exprs: l} }

func TestExprOfTheChapter(t *testing.T) { // P6.2, P6.3
	a, b, c := named("a"), named("b"), named("c")
	wantExpr(t, "(a + b) * c", 5, a, b, binary(1), c, binary(3))
	wantExpr(t, "a + b * c", 4, a, b, c, binary(3), binary(1))
	wantExpr(t, "a - b - c", 4, a, b, binary(2), c, binary(2))
	wantExpr(t, "a - (b - c)", 4, a, b, c, binary(2), binary(2))
	wantExpr(t, "!-t[1]", 6, num(1), index("t"), unary(15), unary(16))
	wantExpr(t, "-(a + b)", 6, a, b, binary(1), unary(15))
	wantExpr(t, "-a << b", 3, a, unary(15), b, binary(9))
	wantNoExpr(t, a, b)
	wantNoExpr(t, binary(1))
	wantNoExpr(t)
	wantNoExpr(t, named("if"))
	wantNoExpr(t, num(-1))
}

func TestSourceOfTheChapter(t *testing.T) { // P6.1
	wantText(t, api.Source{})
	wantText(t, api.Source{Principals: []string{}, Globals: []api.Decl{}, Arrays: []api.ArrayDecl{}, Channels: []api.Decl{}, Funcs: []api.FuncDecl{}})
	wantErr(t, withBody(), api.ErrArg)
	wantErr(t, withBody(api.Stmt{Kind: api.SEnd}), api.ErrArg)
	wantErr(t, api.Source{Globals: []api.Decl{{Name: "x", Label: 1}}}, api.ErrArg)
	wantErr(t, api.Source{Principals: []string{"a"}, Globals: []api.Decl{{Name: "x", Label: 2}}}, api.ErrArg)
}

func TestDeclarations(t *testing.T) { // P6.1
	wantText(t, api.Source{Principals: []string{"a"}}, "principal a;")
	wantText(t, api.Source{Principals: []string{"a", "b", "a", "_"}}, "principal a b a _;")
	wantText(t, api.Source{Globals: []api.Decl{{Name: "x"}}}, "global x {};")
	wantText(t, api.Source{Channels: []api.Decl{{Name: "c"}, {Name: "c"}}}, "channel c {};", "channel c {};")
	wantText(t, api.Source{Arrays: []api.ArrayDecl{{Name: "t", Len: 4}, {Name: "u"}, {Name: "v", Len: 1<<63 - 1}}},
		"array t 4 {};", "array u 0 {};", "array v 9223372036854775807 {};")
	wantText(t, api.Source{
		Principals: []string{"a", "b", "c"},
		Globals:    []api.Decl{{Name: "x", Label: 1}, {Name: "y", Label: 6}},
		Arrays:     []api.ArrayDecl{{Name: "t", Len: 7, Label: 5}},
		Channels:   []api.Decl{{Name: "c", Label: 7}},
		Funcs:      []api.FuncDecl{{Name: "f", Level: 2, Body: []api.Stmt{ret()}}, {Name: "g", Body: []api.Stmt{ret()}}},
	}, "principal a b c;", "global x {a};", "global y {b c};", "array t 7 {a c};", "channel c {a b c};",
		"func f {b} () () {", "  return;", "}", "func g {} () () {", "  return;", "}")
}

func TestFunctionHeads(t *testing.T) { // P6.1
	body := []api.Stmt{ret()}
	wantText(t, api.Source{
		Principals: []string{"a"},
		Funcs: []api.FuncDecl{
			{Name: "f", Level: 1, Params: []api.Decl{{Name: "p"}, {Name: "q", Label: 1}}, Results: []api.Label{0, 1}, Body: body},
			{Name: "g", Params: []api.Decl{{Name: "p", Label: 1}}, Vars: []api.Decl{{Name: "v", Label: 1}, {Name: "w"}}, Body: body},
			{Name: "h", Results: []api.Label{1}, Body: body},
			{Name: "i", Results: []api.Label{0, 0, 0}, Body: body},
		},
	}, "principal a;", "func f {a} (p {}, q {a}) ({}, {a}) {", "  return;", "}",
		"func g {} (p {a}) () {", "  var v {a};", "  var w {};", "  return;", "}",
		"func h {} () ({a}) {", "  return;", "}", "func i {} () ({}, {}, {}) {", "  return;", "}")
}

func TestStatements(t *testing.T) { // P6.1
	one, a := terms(num(1)), terms(named("a"))
	sum := terms(named("a"), num(1), binary(1))
	for want, s := range map[string]api.Stmt{
		"x = 1;":                {Kind: api.SAssign, Targets: []string{"x"}, Exprs: [][]api.Term{one}},
		"t[a + 1] = a;":         {Kind: api.SStore, Name: "t", Exprs: [][]api.Term{sum, a}},
		"send c a + 1;":         {Kind: api.SSend, Name: "c", Exprs: [][]api.Term{sum}},
		"f();":                  {Kind: api.SCall, Name: "f"},
		"f(a + 1);":             {Kind: api.SCall, Name: "f", Exprs: [][]api.Term{sum}},
		"x = f(1, a);":          {Kind: api.SCall, Name: "f", Targets: []string{"x"}, Exprs: [][]api.Term{one, a}},
		"x, y, x = f(1, 1, 1);": {Kind: api.SCall, Name: "f", Targets: []string{"x", "y", "x"}, Exprs: [][]api.Term{one, one, one}},
	} {
		wantText(t, withBody(s, ret()), "func f {} () () {", "  "+want, "  return;", "}")
	}
	for want, kind := range map[string]int{"  if a + 1 {": api.SIf, "  while a + 1 {": api.SWhile} {
		wantText(t, withBody(api.Stmt{Kind: kind, Exprs: [][]api.Term{sum}}, api.Stmt{Kind: api.SEnd}, ret()), "func f {} () () {", want, "  }", "  return;", "}")
	}
	wantText(t, withBody(ret(one)), "func f {} () () {", "  return 1;", "}")
	wantText(t, withBody(ret(one, sum, a)), "func f {} () () {", "  return 1, a + 1, a;", "}")
}

func TestBlocks(t *testing.T) { // P6.1
	on := [][]api.Term{terms(named("a"))}
	branch, other, loop, end := api.Stmt{Kind: api.SIf, Exprs: on}, api.Stmt{Kind: api.SElse}, api.Stmt{Kind: api.SWhile, Exprs: on}, api.Stmt{Kind: api.SEnd}
	call := api.Stmt{Kind: api.SCall, Name: "g"}
	wantText(t, withBody(branch, call, loop, call, branch, other, call, end, call, end, other, branch, end, call, end, call, ret()),
		"func f {} () () {",
		"  if a {",
		"    g();",
		"    while a {",
		"      g();",
		"      if a {",
		"      } else {",
		"        g();",
		"      }",
		"      g();",
		"    }",
		"  } else {",
		"    if a {",
		"    }",
		"    g();",
		"  }",
		"  g();",
		"  return;",
		"}")
	for _, deep := range []int{1, 12, 13} {
		var body []api.Stmt
		want := []string{"func f {} () () {"}
		for k := range deep {
			body = append(body, branch)
			want = append(want, strings.Repeat("  ", k+1)+"if a {")
		}
		for k := range deep {
			body = append(body, end)
			want = append(want, strings.Repeat("  ", deep-k)+"}")
		}
		s := withBody(append(body, ret())...)
		if deep > 12 {
			wantErr(t, s, api.ErrArg)
			continue
		}
		wantText(t, s, append(want, "  return;", "}")...)
	}
}

func TestSourceThatIsNone(t *testing.T) { // P6.1
	x, one := []string{"x"}, [][]api.Term{terms(num(1))}
	none := [][]api.Term{terms(num(-1))}
	for _, s := range []api.Stmt{
		{}, {Kind: -1}, {Kind: 10}, {Kind: api.SElse}, {Kind: api.SEnd}, {Kind: api.SIf, Exprs: one}, {Kind: api.SWhile, Exprs: one}, ret(),
		{Kind: api.SAssign}, {Kind: api.SAssign, Targets: x}, {Kind: api.SAssign, Exprs: one}, {Kind: api.SAssign, Targets: x, Exprs: none},
		{Kind: api.SAssign, Targets: []string{"x", "y"}, Exprs: one}, {Kind: api.SAssign, Targets: x, Exprs: append(one, one...)}, {Kind: api.SAssign, Name: "x", Targets: x, Exprs: one},
		{Kind: api.SAssign, Targets: []string{"if"}, Exprs: one}, {Kind: api.SAssign, Targets: []string{"x = g(); y"}, Exprs: one}, {Kind: api.SAssign, Targets: []string{" x"}, Exprs: one},
		{Kind: api.SStore, Name: "t", Exprs: one}, {Kind: api.SStore, Name: "t"}, {Kind: api.SStore, Exprs: append(one, one...)}, {Kind: api.SStore, Name: "t", Exprs: append(none, one...)},
		{Kind: api.SStore, Name: "t", Targets: x, Exprs: append(one, one...)},
		{Kind: api.SSend, Name: "c"}, {Kind: api.SSend, Exprs: one}, {Kind: api.SSend, Name: "c", Exprs: none}, {Kind: api.SSend, Name: "c", Exprs: append(one, one...)}, {Kind: api.SSend, Name: "1", Exprs: one},
		{Kind: api.SCall}, {Kind: api.SCall, Name: "1"}, {Kind: api.SCall, Name: "f", Exprs: none}, {Kind: api.SCall, Name: "f", Targets: []string{""}}, {Kind: api.SCall, Name: "f", Exprs: [][]api.Term{nil}},
		{Kind: api.SReturn, Exprs: none}, {Kind: api.SReturn, Exprs: [][]api.Term{nil}},
	} {
		wantErr(t, withBody(s, ret()), api.ErrArg)
	}
	end := api.Stmt{Kind: api.SEnd}
	for _, s := range []api.Stmt{
		{Kind: api.SIf}, {Kind: api.SIf, Exprs: none}, {Kind: api.SIf, Name: "x", Exprs: one}, {Kind: api.SIf, Targets: x, Exprs: one}, {Kind: api.SWhile}, {Kind: api.SWhile, Exprs: append(one, one...)},
	} {
		wantErr(t, withBody(s, end, ret()), api.ErrArg)
	}
	wantErr(t, withBody(api.Stmt{Kind: api.SIf, Exprs: one}, api.Stmt{Kind: api.SElse, Name: "x"}, end, ret()), api.ErrArg)
	wantErr(t, withBody(api.Stmt{Kind: api.SIf, Exprs: one}, api.Stmt{Kind: api.SElse, Exprs: one}, end, ret()), api.ErrArg)
	wantErr(t, withBody(api.Stmt{Kind: api.SWhile, Exprs: one}, api.Stmt{Kind: api.SElse}, end, ret()), api.ErrArg)
	wantErr(t, withBody(api.Stmt{Kind: api.SReturn, Name: "x"}), api.ErrArg)
	wantErr(t, withBody(api.Stmt{Kind: api.SReturn, Targets: x}), api.ErrArg)
	wantErr(t, withBody(ret(), api.Stmt{}), api.ErrArg)
}

func TestDeclarationsThatAreNone(t *testing.T) { // P6.1
	body := []api.Stmt{ret()}
	for _, name := range []string{"", "if", "1", "X", "a b", " a", "a ", "a#", strings.Repeat("a", 33), "x {}; global y", "\xff"} {
		wantErr(t, api.Source{Globals: []api.Decl{{Name: name}}}, api.ErrArg)
		wantErr(t, api.Source{Channels: []api.Decl{{Name: name}}}, api.ErrArg)
		wantErr(t, api.Source{Arrays: []api.ArrayDecl{{Name: name}}}, api.ErrArg)
		wantErr(t, api.Source{Principals: []string{"p", name}}, api.ErrArg)
		wantErr(t, api.Source{Funcs: []api.FuncDecl{{Name: name, Body: body}}}, api.ErrArg)
		wantErr(t, api.Source{Funcs: []api.FuncDecl{{Name: "f", Params: []api.Decl{{Name: name}}, Body: body}}}, api.ErrArg)
		wantErr(t, api.Source{Funcs: []api.FuncDecl{{Name: "f", Vars: []api.Decl{{Name: name}}, Body: body}}}, api.ErrArg)
	}
	wantErr(t, api.Source{Arrays: []api.ArrayDecl{{Name: "t", Len: -1}}}, api.ErrArg)
	wantErr(t, api.Source{Principals: []string{"a", "b", "a"}, Globals: []api.Decl{{Name: "x", Label: 4}}}, api.ErrArg)
	wantErr(t, api.Source{Principals: []string{"a"}, Funcs: []api.FuncDecl{{Name: "f", Results: []api.Label{2}, Body: body}}}, api.ErrArg)
	var many []string
	for k := range 65 {
		many = append(many, "p"+strings.Repeat("x", k%30))
	}
	wantErr(t, api.Source{Principals: many}, api.ErrArg)
	wantText(t, api.Source{Principals: many[:64], Globals: []api.Decl{{Name: "x", Label: 1<<29 + 1}}},
		"principal "+strings.Join(many[:64], " ")+";", "global x {p p"+strings.Repeat("x", 29)+"};")
}
