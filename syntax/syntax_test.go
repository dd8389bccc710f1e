package syntax_test

import (
	"slices"
	"strconv"
	"strings"
	"testing"

	"louver/api"
	"louver/syntax"
)

// tour has all that the grammar has.
const tour = `principal p q ; principal r ;
global x { } ; array t 4 { p } ; channel c { q p } ; global y { r r } ;
func f { } ( a { } , b { p } ) ( { } , { q } ) { var v { } ; var w { p } ;
x = 1 ; x = ( a + 2 ) * - b ; t [ x ] = t [ a ] ; send c x ;
g ( ) ; x = g ( ) ; x , y = g ( 1 , a ) ;
if a < b { x = 1 ; } if a { } else { while ! b { send c 1 ; } }
return 1 , x ; }
func g { p } ( ) ( ) { return ; }`

func num(n int64) api.Term { return api.Term{Kind: api.TNumber, Value: n} }

func named(s string) api.Term { return api.Term{Kind: api.TName, Name: s} }

func index(s string) api.Term { return api.Term{Kind: api.TIndex, Name: s} }

func unary(op int64) api.Term { return api.Term{Kind: api.TUnary, Value: op} }

func binary(op int64) api.Term { return api.Term{Kind: api.TBinary, Value: op} }

func wantExpr(t *testing.T, text string, want ...api.Term) {
	t.Helper()
	if got, f := syntax.Expr(text); f != (api.Fault{}) || !slices.Equal(got, want) {
		t.Errorf("Expr of %q = %+v, %+v, want %+v", text, got, f, want)
	}
}

func wantExprFault(t *testing.T, text string, want api.Fault) {
	t.Helper()
	if got, f := syntax.Expr(text); f != want || len(got) != 0 {
		t.Errorf("Expr of %q = %d terms, %+v, want %+v", brief(text), len(got), f, want)
	}
}

func wantFault(t *testing.T, text string, want api.Fault) {
	t.Helper()
	s, f := syntax.Parse(text)
	if f != want {
		t.Errorf("Parse of %q: %+v, want %+v", brief(text), f, want)
	}
	if f != (api.Fault{}) && !isZero(s) {
		t.Errorf("Parse of %q: a source beside a fault", brief(text))
	}
}

func wantSource(t *testing.T, text string, want api.Source) {
	t.Helper()
	if got, f := syntax.Parse(text); f != (api.Fault{}) || !equal(got, want) {
		t.Errorf("Parse of %q = %+v, %+v, want %+v", text, got, f, want)
	}
}

// wantBody reads a function of such a body.
func wantBody(t *testing.T, body string, want ...api.Stmt) {
	t.Helper()
	wantSource(t, "func f {} () () {"+body+"}", api.Source{Funcs: []api.FuncDecl{{Name: "f", Body: want}}})
}

// brief tells a text in a failure's line, though it be long.
func brief(text string) string {
	if len(text) > 300 {
		return text[:300] + " .."
	}
	return text
}

func exprs(l ...[]api.Term) [][]api.Term { return l }

func terms(l ...api.Term) []api.Term { return l }

func TestParseOfTheChapter(t *testing.T) { // P5.1
	wantSource(t, "principal a b; global x {b}; func f {} () () { x = 1 + 2 * 3; return; }", api.Source{
		Principals: []string{"a", "b"},
		Globals:    []api.Decl{{Name: "x", Label: 2}},
		Funcs: []api.FuncDecl{{Name: "f", Body: []api.Stmt{
			{Kind: api.SAssign, Targets: []string{"x"}, Exprs: exprs(terms(num(1), num(2), num(3), binary(3), binary(1)))},
			{Kind: api.SReturn}}}},
	})
	wantFault(t, "global x {p};", fault(api.ErrPrincipal, 10))
	wantFault(t, "func f {} () () { }", fault(api.ErrSyntax, 18))
	wantFault(t, "global x {}", fault(api.ErrSyntax, 11))
	wantFault(t, "global x {}; principal p;", fault(api.ErrSyntax, 13))
	wantFault(t, "func f {} () () { x, y = 1; return; }", fault(api.ErrSyntax, 25))
	wantBody(t, "x, y = g(); return;", api.Stmt{Kind: api.SCall, Name: "g", Targets: []string{"x", "y"}}, api.Stmt{Kind: api.SReturn})
}

func TestExprOfTheChapter(t *testing.T) { // P5.2
	wantExpr(t, "-!a[1] << (b - 2)", num(1), index("a"), unary(16), unary(15), named("b"), num(2), binary(2), binary(9))
	wantExpr(t, "a < b == c", named("a"), named("b"), binary(13), named("c"), binary(11))
	wantExprFault(t, "1 +", fault(api.ErrSyntax, 3))
	wantExprFault(t, "(1", fault(api.ErrSyntax, 2))
	wantExprFault(t, "", fault(api.ErrSyntax, 0))
	wantExpr(t, strings.Repeat("(", 12)+"1"+strings.Repeat(")", 12), num(1))
	wantExprFault(t, strings.Repeat("(", 13)+"1"+strings.Repeat(")", 13), fault(api.ErrDeep, 12))
}

func TestParseOfSmallSources(t *testing.T) { // P5.1
	wantSource(t, "", api.Source{})
	wantSource(t, " # nothing\n", api.Source{})
	wantSource(t, "principal a a b; principal b c;", api.Source{Principals: []string{"a", "a", "b", "b", "c"}})
	wantSource(t, "principal a b a b; global x {b a b}; channel c {b}; global x {};", api.Source{
		Principals: []string{"a", "b", "a", "b"},
		Globals:    []api.Decl{{Name: "x", Label: 3}, {Name: "x"}},
		Channels:   []api.Decl{{Name: "c", Label: 2}},
	})
	wantSource(t, "array t 0 {}; array t 9223372036854775807 {}; array u 007 {};", api.Source{
		Arrays: []api.ArrayDecl{{Name: "t"}, {Name: "t", Len: 1<<63 - 1}, {Name: "u", Len: 7}},
	})
	wantSource(t, "principal p; func f {p} (a {}, b {p}) ({p}, {}, {p}) {var v {p}; var v {}; return;} func f {}()(){return;}", api.Source{
		Principals: []string{"p"},
		Funcs: []api.FuncDecl{
			{Name: "f", Level: 1, Params: []api.Decl{{Name: "a"}, {Name: "b", Label: 1}}, Results: []api.Label{1, 0, 1},
				Vars: []api.Decl{{Name: "v", Label: 1}, {Name: "v"}}, Body: []api.Stmt{{Kind: api.SReturn}}},
			{Name: "f", Body: []api.Stmt{{Kind: api.SReturn}}},
		},
	})
}

func TestStatements(t *testing.T) { // P5.1
	ret := api.Stmt{Kind: api.SReturn}
	one := exprs(terms(num(1)))
	wantBody(t, "return 1;", api.Stmt{Kind: api.SReturn, Exprs: one})
	wantBody(t, "return a, (b), 1+2;", api.Stmt{Kind: api.SReturn, Exprs: exprs(terms(named("a")), terms(named("b")), terms(num(1), num(2), binary(1)))})
	wantBody(t, "x=1;return;", api.Stmt{Kind: api.SAssign, Targets: []string{"x"}, Exprs: one}, ret)
	wantBody(t, "x=a;return;", api.Stmt{Kind: api.SAssign, Targets: []string{"x"}, Exprs: exprs(terms(named("a")))}, ret)
	wantBody(t, "x=a[1];return;", api.Stmt{Kind: api.SAssign, Targets: []string{"x"}, Exprs: exprs(terms(num(1), index("a")))}, ret)
	wantBody(t, "x=(a);return;", api.Stmt{Kind: api.SAssign, Targets: []string{"x"}, Exprs: exprs(terms(named("a")))}, ret)
	wantBody(t, "t[a]=1;return;", api.Stmt{Kind: api.SStore, Name: "t", Exprs: exprs(terms(named("a")), terms(num(1)))}, ret)
	wantBody(t, "send c 1;return;", api.Stmt{Kind: api.SSend, Name: "c", Exprs: one}, ret)
	wantBody(t, "send c (1);return;", api.Stmt{Kind: api.SSend, Name: "c", Exprs: one}, ret)
	wantBody(t, "g();return;", api.Stmt{Kind: api.SCall, Name: "g"}, ret)
	wantBody(t, "g(1);return;", api.Stmt{Kind: api.SCall, Name: "g", Exprs: one}, ret)
	wantBody(t, "x=g(1,a);return;", api.Stmt{Kind: api.SCall, Name: "g", Targets: []string{"x"}, Exprs: exprs(terms(num(1)), terms(named("a")))}, ret)
	wantBody(t, "x,x,y=g();return;", api.Stmt{Kind: api.SCall, Name: "g", Targets: []string{"x", "x", "y"}}, ret)
	wantBody(t, "if 1{}return;", api.Stmt{Kind: api.SIf, Exprs: one}, api.Stmt{Kind: api.SEnd}, ret)
	wantBody(t, "if 1{}else{}return;", api.Stmt{Kind: api.SIf, Exprs: one}, api.Stmt{Kind: api.SElse}, api.Stmt{Kind: api.SEnd}, ret)
	wantBody(t, "while 1{g();}return;", api.Stmt{Kind: api.SWhile, Exprs: one}, api.Stmt{Kind: api.SCall, Name: "g"}, api.Stmt{Kind: api.SEnd}, ret)
	wantBody(t, "if 1{if 1{}else{g();}}else{while 1{}}return;",
		api.Stmt{Kind: api.SIf, Exprs: one}, api.Stmt{Kind: api.SIf, Exprs: one}, api.Stmt{Kind: api.SElse}, api.Stmt{Kind: api.SCall, Name: "g"}, api.Stmt{Kind: api.SEnd},
		api.Stmt{Kind: api.SElse}, api.Stmt{Kind: api.SWhile, Exprs: one}, api.Stmt{Kind: api.SEnd}, api.Stmt{Kind: api.SEnd}, ret)
}

// unsigned is a text without its sign @, and where that stood.
func unsigned(text string) (string, int) {
	at := strings.IndexByte(text, '@')
	return text[:at] + text[at+1:], at
}

func TestStatementsThatGoWrong(t *testing.T) { // P5.1
	for _, body := range []string{
		"@}", "@; return;", "x @; return;", "x @+ 1; return;", "x = @; return;", "x = 1 @return;",
		"x, @1 = g(); return;", "x, y @; return;", "x, y @(); return;", "x, y @[1] = 2; return;", "x, y = g @; return;",
		"x, y = @(g()); return;", "x, y = g @+ 1; return;", "x, y = g() @+ 1; return;", "x, @if = g(); return;",
		"x = g() @+ 1; return;", "x = 1 + g @(); return;", "x = (g @()); return;", "x = -g @(); return;", "x = g @g; return;",
		"t[1] @, x = g(); return;", "t[@] = 1; return;", "t[1] = g @(); return;", "t[1] @; return;", "t[1 @; return;", "t[1] @[2] = 1; return;",
		"g(@,); return;", "g(1 @2); return;", "g(1, @); return;", "g() @x = 1; return;", "g(h @()); return;",
		"send @1 1; return;", "send c @; return;", "send c 1 @, 2; return;", "send c @[1]; return;", "send @= 1; return;",
		"if @{ } return;", "if a @x = 1; return;", "if a { @return; } return;", "if a { } else @if b { } return;", "@else { } return;",
		"if a { } else { } @else { } return;", "while a { } @else { } return;", "while @{ } return;", "while a { } @}",
		"x = 1; @var v {}; return;", "var v @; return;", "var v {}@, w {}; return;", "@{ } return;", "@1 = x; return;",
		"return @return;", "return 1 @2;", "return 1, @;", "return g @();", "return; @x = 1;", "return; @;", "return @}",
	} {
		text, at := unsigned("func f {} () () { " + body + " }")
		wantFault(t, text, fault(api.ErrSyntax, at))
	}
}

func TestDeclarationsThatGoWrong(t *testing.T) { // P5.1
	for _, signed := range []string{
		"@x", "@;", "@1", "@{", "@var v {};", "principal @;", "principal a @, b;", "principal @global x {};", "principal a; @a;", "principal @1;",
		"global @{};", "global x @;", "global x {} @global y {};", "global x @4 {};", "global x {@1};", "global x {@{}};", "global x {@", "global @if {};",
		"array t @{};", "array t 4 @;", "array @4 {};", "array t @-1 {};", "array t @n {};", "array t 4 {} @,", "channel @", "channel c @(",
		"func @{} () () { return; }", "func f @() () { return; }", "func f {} @{ return; }", "func f {} () @{ return; }", "func f {} () () @return;",
		"func f {} (a @) () { return; }", "func f {} (a {} @b {}) () { return; }", "func f {} (a {}, @) () { return; }", "func f {} (@{}) () { return; }",
		"func f {} () (@a {}) { return; }", "func f {} () ({} @{}) { return; }", "func f {} () ({}, @) { return; }", "func f {} () () { return; @",
		"func f {} () () { return; } @;", "func f {} () () { return; } @principal p;", "func f {} () () { return; } @var v {};",
	} {
		text, at := unsigned(signed)
		wantFault(t, text, fault(api.ErrSyntax, at))
	}
}

func TestTextsThatEndTooEarly(t *testing.T) { // P5.1
	wantFault(t, "global x {}  # no more\n ", fault(api.ErrSyntax, 24))
	wantFault(t, "func f {} () () { return", fault(api.ErrSyntax, 24))
	wantFault(t, "principal", fault(api.ErrSyntax, 9))
	wantFault(t, "principal p", fault(api.ErrSyntax, 11))
	wantExprFault(t, " # 1\n", fault(api.ErrSyntax, 5))
	wantExprFault(t, "a[ ", fault(api.ErrSyntax, 3))
}

func TestWrongWordsComeFirst(t *testing.T) { // P5.1, P5.2
	wantFault(t, "} > A", fault(api.ErrRune, 2))
	wantFault(t, "global x {p}; "+strings.Repeat("n", 33), fault(api.ErrLong, 14))
	wantFault(t, "array t 9223372036854775808 {};", fault(api.ErrLong, 8))
	wantFault(t, "> 9223372036854775808", fault(api.ErrRune, 0))
	wantFault(t, ">"+strings.Repeat(" ", api.MaxText), fault(api.ErrLong, 0))
	wantFault(t, strings.Repeat(" ", api.MaxText-1)+";", fault(api.ErrSyntax, api.MaxText-1))
	wantFault(t, strings.Repeat(" ", api.MaxText), api.Fault{})
	wantFault(t, strings.Repeat(" ", api.MaxText+1), fault(api.ErrLong, 0))
	wantExprFault(t, ") > A", fault(api.ErrRune, 2))
	wantExprFault(t, "1 9223372036854775808", fault(api.ErrLong, 2))
	wantExprFault(t, "1"+strings.Repeat(" ", api.MaxText), fault(api.ErrLong, 0))
	wantExpr(t, "1"+strings.Repeat(" ", api.MaxText-1), num(1))
}

func TestPrincipals(t *testing.T) { // P5.1
	var names []string
	for n := range api.MaxPrincipals {
		names = append(names, "p"+strconv.Itoa(n))
	}
	head := "principal " + strings.Join(names, " ")
	wantSource(t, head+"; global x {p63 p0}; global y {"+strings.Join(names, " ")+"};", api.Source{
		Principals: names,
		Globals:    []api.Decl{{Name: "x", Label: 1<<63 + 1}, {Name: "y", Label: 1<<64 - 1}},
	})
	wantFault(t, head+" q;", fault(api.ErrMany, len(head)+1))
	wantFault(t, head+" p0;", fault(api.ErrMany, len(head)+1))
	wantFault(t, head+"; principal q; global x {z};", fault(api.ErrMany, len(head)+12))
	wantFault(t, head+" 1;", fault(api.ErrSyntax, len(head)+1))
	wantFault(t, head+"; principal ;", fault(api.ErrSyntax, len(head)+12))
	wantFault(t, "principal"+strings.Repeat(" p", 65)+"; global x {z};", fault(api.ErrMany, 9+64*2+1))
	wantFault(t, "principal a; func f {a b} () () { return; }", fault(api.ErrPrincipal, 23))
	wantFault(t, "principal a; array a 1 {a x};", fault(api.ErrPrincipal, 26))
	wantFault(t, "func f {} (f {f}) () { return; }", fault(api.ErrPrincipal, 14))
	wantFault(t, "func f {} () ({}, {f}) { return; }", fault(api.ErrPrincipal, 19))
	wantFault(t, "func f {} () () { var v {v}; return; }", fault(api.ErrPrincipal, 25))
	wantFault(t, "global x {p} } 1", fault(api.ErrPrincipal, 10))
	wantFault(t, "global x } {p}", fault(api.ErrSyntax, 9))
	wantFault(t, "channel x {if};", fault(api.ErrSyntax, 11))
}

// nested is a body whose blocks stand so deep within one another.
func nested(open string, deep int) string {
	return strings.Repeat(open+" {", deep) + strings.Repeat("}", deep) + " return;}"
}

func TestDeepBlocks(t *testing.T) { // P5.1
	const head = "func f {} () () {"
	for _, open := range []string{"if 1", "while 1", "if 1 {} else"} {
		wantFault(t, head+nested(open, 12), api.Fault{})
		step := len(open) + 2
		wantFault(t, head+nested(open, 13), deepAt(open, head, step))
	}
	for _, inner := range []string{"if 1 {}", "while 1 {}", "if 1 {} else {}"} {
		full := strings.Repeat("if 1 {", 11) + inner + inner + strings.Repeat("}", 11)
		wantFault(t, head+full+full+"return;}", api.Fault{})
	}
	for _, word := range []string{"if", "while"} {
		text := head + strings.Repeat("while 1 {", 12) + word + " 1 1"
		wantFault(t, text, fault(api.ErrSyntax, len(text)-1))
	}
	text := head + strings.Repeat("if 1 {} else {", 11) + "if 1 {x = ((a)); while 1 {"
	wantFault(t, text+"}", fault(api.ErrDeep, len(text)-1))
}

// deepAt is the fault of 13 blocks: of the thirteenth one's first mark.
func deepAt(open, head string, step int) api.Fault {
	if i := strings.IndexByte(open, '{'); i >= 0 {
		return fault(api.ErrDeep, len(head)+12*step+i)
	}
	return fault(api.ErrDeep, len(head)+12*step+step-1)
}

func TestDeepExpressions(t *testing.T) { // P5.1, P5.2
	deep := func(open, closing string, n int) string {
		return strings.Repeat(open, n) + "1" + strings.Repeat(closing, n)
	}
	for _, open := range []string{"(", "a[", "-(", "2*a["} {
		closing := map[byte]string{'(': ")", '[': "]"}[open[len(open)-1]]
		if _, f := syntax.Expr(deep(open, closing, 12)); f != (api.Fault{}) {
			t.Errorf("12 times %s: %+v", open, f)
		}
		wantExprFault(t, deep(open, closing, 13), fault(api.ErrDeep, 13*len(open)-1))
		wantExprFault(t, deep(open, closing, 12)+" 1", fault(api.ErrSyntax, 12*len(open)+14))
	}
	half := deep("(a[", "])", 6)
	wantExprFault(t, half+"+"+deep("(", ")", 13), fault(api.ErrDeep, len(half)+13))
	wantExprFault(t, half+"+("+half+")", fault(api.ErrDeep, len(half)+2+17))
	wantExprFault(t, strings.Repeat("(", 12)+")", fault(api.ErrSyntax, 12))
	wantExpr(t, deep("(", ")", 12)+"+"+deep("(", ")", 12), num(1), num(1), binary(1))
	if l, f := syntax.Expr(strings.Repeat("-", 60000) + "1"); len(l) != 60001 || f != (api.Fault{}) {
		t.Errorf("60000 unary operations: %d terms, %+v", len(l), f)
	}
	if l, f := syntax.Expr("1" + strings.Repeat("+1", 30000)); len(l) != 60001 || f != (api.Fault{}) {
		t.Errorf("30000 binary operations: %d terms, %+v", len(l), f)
	}
}

// The brackets of statements are not of expressions.
func TestBracketsOfStatementsAreNotDeep(t *testing.T) { // P5.1
	full := strings.Repeat("(", 12) + "1" + strings.Repeat(")", 12)
	body := "t[" + full + "] = " + full + "; g(" + full + ", " + full + "); x = g(" + full + "); return " + full + ";"
	wantFault(t, "func f {} () () {"+strings.Repeat("if "+full+" {", 12)+strings.Repeat("}", 12)+body+"}", api.Fault{})
	wantFault(t, "func f {} () () {t[("+full, fault(api.ErrDeep, 20+11))
	wantFault(t, "func f {} () () {g(("+full, fault(api.ErrDeep, 20+11))
}

func TestLevels(t *testing.T) { // P5.2
	a, b, c := named("a"), named("b"), named("c")
	signs := strings.Fields("+ - * / % & | ^ << >> == != < <=")
	levels := []int{4, 4, 5, 5, 5, 2, 1, 1, 3, 3, 0, 0, 0, 0}
	for i, s := range signs {
		x := binary(int64(i + 1))
		wantExpr(t, "a"+s+"b", a, b, x)
		wantExpr(t, "a"+s+"(b"+s+"c)", a, b, c, x, x)
		wantExpr(t, "-a"+s+"!b", a, unary(15), b, unary(16), x)
		wantExpr(t, "~(a"+s+"b)", a, b, x, unary(17))
		wantExprFault(t, "a"+s, fault(api.ErrSyntax, 1+len(s)))
		for k, r := range signs {
			y := binary(int64(k + 1))
			if levels[i] >= levels[k] {
				wantExpr(t, "a"+s+"b"+r+"c", a, b, x, c, y)
			} else {
				wantExpr(t, "a"+s+"b"+r+"c", a, b, c, y, x)
			}
		}
	}
}

func TestExprThatIsNone(t *testing.T) { // P5.2
	for _, text := range []string{
		"@)", "a @b", "a @(1)", "1 @[0]", "(a) @[0]", "a[1] @[2]", "a[@]", "(@)", "a + @* b", "a + @", "@* a", "a @!b", "a - @, b", "a @, b", "1 @;", "@if", "1 + @while",
		"a @= b", "a < @= b", "@{", "a[1 @)", "(1 @]", "a @~ b", "! @= a",
	} {
		text, at := unsigned(text)
		wantExprFault(t, text, fault(api.ErrSyntax, at))
	}
	wantExprFault(t, "p{p}", fault(api.ErrSyntax, 1))
}
