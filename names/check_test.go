package names_test

import (
	"fmt"
	"slices"
	"testing"

	"louver/api"
	"louver/names"
)

// base is a source without a fault, that the breaks below begin from.
const base = `principal a b;
global x {a}; global y {};
array t 4 {b}; array u 5 {};
channel c {a b}; channel d {};
func f {a} (p {}, q {b}) ({}, {a}) {
	var v {}; var w {};
	x = p + y;            # 0
	t[v + p] = t[q];      # 1
	if v {                # 2
		send c x + y;     # 3
	} else {              # 4
		while y {         # 5
			v, x = f(v, w); # 6
		}
	}
	f(x, y);              # 9
	g();                  # 10
	return v, q;          # 11
}
func g {} () () { send d y; return; }`

// breakage is a change to the base that brings one fault in. Two of one field can't be brought in together.
type breakage struct {
	what, field string
	do          func(s *api.Source)
	want        api.Fault
}

func decls(n int, prefix string) []api.Decl {
	var l []api.Decl
	for k := range n {
		l = append(l, api.Decl{Name: fmt.Sprint(prefix, k)})
	}
	return l
}

func strangers(n int) []string {
	var l []string
	for k := range n {
		l = append(l, fmt.Sprint("principal_", k))
	}
	return l
}

// outsideBreaks are those of the declarations, in the order in which the chapter names them.
func outsideBreaks() []breakage {
	at := func(err api.Errno, at int) api.Fault { return fault(err, -1, at) }
	return []breakage{
		{"no name", "principal 0", func(s *api.Source) { s.Principals[0] = "1" }, at(api.ErrArg, 0)},
		{"a keyword", "principal 1", func(s *api.Source) { s.Principals[1] = "send" }, at(api.ErrArg, 1)},
		{"twice", "principal 1", func(s *api.Source) { s.Principals[1] = "a" }, at(api.ErrTwice, 1)},
		{"too many", "principals", func(s *api.Source) { s.Principals = append(s.Principals, strangers(63)...) }, at(api.ErrMany, 64)},
		{"no name", "global 0", func(s *api.Source) { s.Globals[0].Name = "" }, at(api.ErrArg, 2)},
		{"label", "global 0 label", func(s *api.Source) { s.Globals[0].Label = 1 << 63 }, at(api.ErrPrincipal, 2)},
		{"no name", "global 1", func(s *api.Source) { s.Globals[1].Name = "var" }, at(api.ErrArg, 3)},
		{"twice", "global 1", func(s *api.Source) { s.Globals[1].Name = "x" }, at(api.ErrTwice, 3)},
		{"label", "global 1 label", func(s *api.Source) { s.Globals[1].Label = 5 }, at(api.ErrPrincipal, 3)},
		{"too many", "globals", func(s *api.Source) { s.Globals = append(s.Globals, decls(31, "more_")...) }, at(api.ErrMany, 34)},
		{"twice", "array 0", func(s *api.Source) { s.Arrays[0].Name = "x" }, at(api.ErrTwice, 4)},
		{"length", "array 0 length", func(s *api.Source) { s.Arrays[0].Len = 0 }, at(api.ErrArg, 4)},
		{"label", "array 0 label", func(s *api.Source) { s.Arrays[0].Label = 4 }, at(api.ErrPrincipal, 4)},
		{"no name", "array 1", func(s *api.Source) { s.Arrays[1].Name = "9" }, at(api.ErrArg, 5)},
		{"twice", "array 1", func(s *api.Source) { s.Arrays[1].Name = "t" }, at(api.ErrTwice, 5)},
		{"length", "array 1 length", func(s *api.Source) { s.Arrays[1].Len = 257 }, at(api.ErrArg, 5)},
		{"label", "array 1 label", func(s *api.Source) { s.Arrays[1].Label = 1 << 2 }, at(api.ErrPrincipal, 5)},
		{"too many", "arrays", func(s *api.Source) { s.Arrays = append(s.Arrays, arrays(15)...) }, at(api.ErrMany, 20)},
		{"twice", "channel 0", func(s *api.Source) { s.Channels[0].Name = "t" }, at(api.ErrTwice, 6)},
		{"label", "channel 0 label", func(s *api.Source) { s.Channels[0].Label = 7 }, at(api.ErrPrincipal, 6)},
		{"no name", "channel 1", func(s *api.Source) { s.Channels[1].Name = "D" }, at(api.ErrArg, 7)},
		{"twice", "channel 1", func(s *api.Source) { s.Channels[1].Name = "c" }, at(api.ErrTwice, 7)},
		{"label", "channel 1 label", func(s *api.Source) { s.Channels[1].Label = 1 << 62 }, at(api.ErrPrincipal, 7)},
		{"too many", "channels", func(s *api.Source) { s.Channels = append(s.Channels, decls(15, "more_c")...) }, at(api.ErrMany, 22)},
		{"twice", "func 0", func(s *api.Source) { s.Funcs[0].Name = "c" }, at(api.ErrTwice, 8)},
		{"no name", "func 0", func(s *api.Source) { s.Funcs[0].Name = "func" }, at(api.ErrArg, 8)},
		{"no name", "func 1", func(s *api.Source) { s.Funcs[1].Name = "g g" }, at(api.ErrArg, 9)},
		{"twice", "func 1", func(s *api.Source) { s.Funcs[1].Name = "f" }, at(api.ErrTwice, 9)},
		{"too many", "funcs", func(s *api.Source) { s.Funcs = append(s.Funcs, funcs(31)...) }, at(api.ErrMany, 40)},
	}
}

func arrays(n int) []api.ArrayDecl {
	var l []api.ArrayDecl
	for k := range n {
		l = append(l, api.ArrayDecl{Name: fmt.Sprint("more_a", k), Len: 1})
	}
	return l
}

func ret(l ...[]api.Term) api.Stmt { return api.Stmt{Kind: api.SReturn, Exprs: l} }

func funcs(n int) []api.FuncDecl {
	var l []api.FuncDecl
	for k := range n {
		l = append(l, api.FuncDecl{Name: fmt.Sprint("more_f", k), Body: []api.Stmt{ret()}})
	}
	return l
}

// nests lays so many blocks in one another ahead of a function's statements.
func nests(f *api.FuncDecl, n int) {
	on := api.Stmt{Kind: api.SWhile, Exprs: exprs(terms(num(1)))}
	f.Body = slices.Concat(slices.Repeat([]api.Stmt{on}, n), slices.Repeat([]api.Stmt{{Kind: api.SEnd}}, n), f.Body)
}

// fill lays statements ahead of a function's till there are so many.
func fill(f *api.FuncDecl, n int) {
	set := api.Stmt{Kind: api.SAssign, Targets: []string{"y"}, Exprs: exprs(terms(num(1)))}
	f.Body = append(slices.Repeat([]api.Stmt{set}, n-len(f.Body)), f.Body...)
}

// headBreaks are those of function 0's head, in their order.
func headBreaks() []breakage {
	in := func(what, field string, do func(f *api.FuncDecl), err api.Errno) breakage {
		return breakage{what, field, func(s *api.Source) { do(&s.Funcs[0]) }, fault(err, 0, -1)}
	}
	return []breakage{
		in("too many", "params", func(f *api.FuncDecl) { f.Params = append(f.Params, decls(7, "more_p")...) }, api.ErrMany),
		in("too many", "results", func(f *api.FuncDecl) { f.Results = append(f.Results, 0, 0, 0) }, api.ErrMany),
		in("too many", "vars", func(f *api.FuncDecl) { f.Vars = append(f.Vars, decls(31, "more_v")...) }, api.ErrMany),
		in("too many", "stmts", func(f *api.FuncDecl) { fill(f, 257) }, api.ErrMany),
		in("label", "level", func(f *api.FuncDecl) { f.Level = 4 }, api.ErrPrincipal),
		in("no name", "param 0", func(f *api.FuncDecl) { f.Params[0].Name = "P" }, api.ErrArg),
		in("twice: a function behind", "param 0", func(f *api.FuncDecl) { f.Params[0].Name = "g" }, api.ErrTwice),
		in("twice: a global", "param 0", func(f *api.FuncDecl) { f.Params[0].Name = "y" }, api.ErrTwice),
		in("label", "param 0 label", func(f *api.FuncDecl) { f.Params[0].Label = 1 << 40 }, api.ErrPrincipal),
		in("no name", "param 1", func(f *api.FuncDecl) { f.Params[1].Name = "" }, api.ErrArg),
		in("twice: a param", "param 1", func(f *api.FuncDecl) { f.Params[1].Name = "p" }, api.ErrTwice),
		in("twice: an array", "param 1", func(f *api.FuncDecl) { f.Params[1].Name = "u" }, api.ErrTwice),
		in("label", "param 1 label", func(f *api.FuncDecl) { f.Params[1].Label = 7 }, api.ErrPrincipal),
		in("no name", "var 0", func(f *api.FuncDecl) { f.Vars[0].Name = "else" }, api.ErrArg),
		in("twice: a param", "var 0", func(f *api.FuncDecl) { f.Vars[0].Name = "q" }, api.ErrTwice),
		in("twice: the function", "var 0", func(f *api.FuncDecl) { f.Vars[0].Name = "f" }, api.ErrTwice),
		in("label", "var 0 label", func(f *api.FuncDecl) { f.Vars[0].Label = 4 }, api.ErrPrincipal),
		in("twice: a var", "var 1", func(f *api.FuncDecl) { f.Vars[1].Name = "v" }, api.ErrTwice),
		in("twice: a channel", "var 1", func(f *api.FuncDecl) { f.Vars[1].Name = "d" }, api.ErrTwice),
		in("label", "var 1 label", func(f *api.FuncDecl) { f.Vars[1].Label = 1 << 63 }, api.ErrPrincipal),
		in("label", "result 0", func(f *api.FuncDecl) { f.Results[0] = 4 }, api.ErrPrincipal),
		in("label", "result 1", func(f *api.FuncDecl) { f.Results[1] = 9 }, api.ErrPrincipal),
		in("an end too many", "blocks", func(f *api.FuncDecl) { f.Body = append([]api.Stmt{{Kind: api.SEnd}}, f.Body...) }, api.ErrSyntax),
		in("an else too many", "blocks", func(f *api.FuncDecl) { f.Body[5].Kind = api.SElse }, api.ErrSyntax),
		in("an end too few", "blocks", func(f *api.FuncDecl) { f.Body = slices.Delete(f.Body, 7, 8) }, api.ErrSyntax),
		in("too deep", "blocks", func(f *api.FuncDecl) { nests(f, 13) }, api.ErrSyntax),
		in("no return", "blocks", func(f *api.FuncDecl) { f.Body = f.Body[:11] }, api.ErrSyntax),
		in("two returns", "blocks", func(f *api.FuncDecl) { f.Body = append(f.Body, f.Body[11]) }, api.ErrSyntax),
		in("a return within a block", "blocks", func(f *api.FuncDecl) { f.Body[3] = ret(terms(num(1)), terms(num(2))) }, api.ErrSyntax),
		in("something behind the return", "blocks", func(f *api.FuncDecl) { f.Body[10], f.Body[11] = f.Body[11], f.Body[10] }, api.ErrSyntax),
		in("no statement", "blocks", func(f *api.FuncDecl) { f.Body = nil }, api.ErrSyntax),
	}
}

// stmtBreaks are those of function 0's statements, in their order.
func stmtBreaks() []breakage {
	in := func(i int, what, field string, do func(x *api.Stmt), err api.Errno) breakage {
		return breakage{what, fmt.Sprint(i, " ", field), func(s *api.Source) { do(&s.Funcs[0].Body[i]) }, fault(err, 0, i)}
	}
	long := func(n int) []api.Term { return append(terms(num(1)), slices.Repeat(terms(unary(15)), n-1)...) }
	return []breakage{
		in(0, "a Name", "name", func(x *api.Stmt) { x.Name = "x" }, api.ErrSyntax),
		in(0, "too long", "first", func(x *api.Stmt) { x.Exprs[0] = append(x.Exprs[0], long(49)[1:]...) }, api.ErrMany),
		in(0, "unknown", "target", func(x *api.Stmt) { x.Targets[0] = "z" }, api.ErrUnknown),
		in(0, "an array", "target", func(x *api.Stmt) { x.Targets[0] = "t" }, api.ErrKind),
		in(0, "unknown", "term 0", func(x *api.Stmt) { x.Exprs[0][0].Name = "a" }, api.ErrUnknown),
		in(0, "a function", "term 0", func(x *api.Stmt) { x.Exprs[0][0].Name = "f" }, api.ErrKind),
		in(0, "a channel", "term 1", func(x *api.Stmt) { x.Exprs[0][1].Name = "c" }, api.ErrKind),
		in(0, "unknown", "term 1", func(x *api.Stmt) { x.Exprs[0][1].Name = "z" }, api.ErrUnknown),
		in(1, "no expression", "count", func(x *api.Stmt) { x.Exprs = x.Exprs[:1] }, api.ErrSyntax),
		in(1, "a number below 0", "whole", func(x *api.Stmt) { x.Exprs[0][0] = num(-1) }, api.ErrSyntax),
		in(1, "too long", "count", func(x *api.Stmt) { x.Exprs[1] = append(x.Exprs[1], long(48)[1:]...) }, api.ErrMany),
		in(1, "a local", "name", func(x *api.Stmt) { x.Name = "v" }, api.ErrKind),
		in(1, "unknown", "name", func(x *api.Stmt) { x.Name = "b" }, api.ErrUnknown),
		in(1, "an array", "whole", func(x *api.Stmt) { x.Exprs[0][0].Name = "t" }, api.ErrKind),
		in(1, "unknown", "term 1", func(x *api.Stmt) { x.Exprs[0][1].Name = "nothing" }, api.ErrUnknown),
		in(1, "an array of none", "index", func(x *api.Stmt) { x.Exprs[1][1].Name = "q" }, api.ErrKind),
		in(2, "a term too few", "whole", func(x *api.Stmt) { x.Exprs[0] = nil }, api.ErrSyntax),
		in(2, "unknown", "whole", func(x *api.Stmt) { x.Exprs[0][0].Name = "vv" }, api.ErrUnknown),
		in(3, "a target", "targets", func(x *api.Stmt) { x.Targets = []string{"x"} }, api.ErrSyntax),
		in(3, "a global", "name", func(x *api.Stmt) { x.Name = "x" }, api.ErrKind),
		in(3, "unknown", "name", func(x *api.Stmt) { x.Name = "e" }, api.ErrUnknown),
		in(3, "an array", "term 0", func(x *api.Stmt) { x.Exprs[0][0].Name = "t" }, api.ErrKind),
		in(4, "an expression", "exprs", func(x *api.Stmt) { x.Exprs = exprs(terms(num(1))) }, api.ErrSyntax),
		in(4, "a name", "name", func(x *api.Stmt) { x.Name = "x" }, api.ErrSyntax),
		in(5, "no term", "whole", func(x *api.Stmt) { x.Exprs[0][0].Kind = 6 }, api.ErrSyntax),
		in(5, "a function", "whole", func(x *api.Stmt) { x.Exprs[0][0].Name = "g" }, api.ErrKind),
		in(6, "many expressions", "exprs", func(x *api.Stmt) { x.Exprs = slices.Repeat(x.Exprs[:1], 9) }, api.ErrMany),
		in(6, "unknown", "target 0", func(x *api.Stmt) { x.Targets[0] = "vv" }, api.ErrUnknown),
		in(6, "a channel", "target 1", func(x *api.Stmt) { x.Targets[1] = "d" }, api.ErrKind),
		in(6, "unknown", "target 1", func(x *api.Stmt) { x.Targets[1] = "dd" }, api.ErrUnknown),
		in(6, "an array", "name", func(x *api.Stmt) { x.Name = "t" }, api.ErrKind),
		in(6, "unknown", "name", func(x *api.Stmt) { x.Name = "h" }, api.ErrUnknown),
		in(6, "unknown", "exprs", func(x *api.Stmt) { x.Exprs[1][0].Name = "w1" }, api.ErrUnknown),
		in(6, "an argument too many", "exprs", func(x *api.Stmt) { x.Exprs = append(x.Exprs, x.Exprs[0]) }, api.ErrCount),
		in(6, "a target too few", "target 1", func(x *api.Stmt) { x.Targets = x.Targets[:1] }, api.ErrCount),
		in(7, "a target", "targets", func(x *api.Stmt) { x.Targets = []string{""} }, api.ErrSyntax),
		in(9, "no function", "name", func(x *api.Stmt) { x.Name = "p" }, api.ErrKind),
		in(9, "an argument too few", "exprs", func(x *api.Stmt) { x.Exprs = x.Exprs[:1] }, api.ErrCount),
		in(9, "a target too many", "targets", func(x *api.Stmt) { x.Targets = []string{"v", "v", "v"} }, api.ErrCount),
		in(10, "no such kind", "kind", func(x *api.Stmt) { x.Kind = 10 }, api.ErrSyntax),
		in(10, "a target", "targets", func(x *api.Stmt) { x.Targets = []string{"v"} }, api.ErrCount),
		in(11, "a name", "name", func(x *api.Stmt) { x.Name = "f" }, api.ErrSyntax),
		in(11, "many expressions", "exprs", func(x *api.Stmt) { x.Exprs = slices.Repeat(x.Exprs[:1], 9) }, api.ErrMany),
		in(11, "unknown", "term 0", func(x *api.Stmt) { x.Exprs[0][0].Name = "nobody" }, api.ErrUnknown),
		in(11, "a channel", "exprs", func(x *api.Stmt) { x.Exprs[1][0].Name = "c" }, api.ErrKind),
		in(11, "a result too few", "exprs", func(x *api.Stmt) { x.Exprs = x.Exprs[:1] }, api.ErrCount),
		in(11, "a result too many", "exprs", func(x *api.Stmt) { x.Exprs = append(x.Exprs, x.Exprs[0]) }, api.ErrCount),
	}
}

// laterBreaks are those of function 1, which is looked at behind all of function 0.
func laterBreaks() []breakage {
	return []breakage{
		{"label", "later head", func(s *api.Source) { s.Funcs[1].Level = 4 }, fault(api.ErrPrincipal, 1, -1)},
		{"unknown", "later term", func(s *api.Source) { s.Funcs[1].Body[0].Exprs[0][0].Name = "v" }, fault(api.ErrUnknown, 1, 0)},
		{"a result", "later return", func(s *api.Source) { s.Funcs[1].Body[1].Exprs = exprs(terms(num(1))) }, fault(api.ErrCount, 1, 1)},
	}
}

func TestEachFault(t *testing.T) { // P7.1
	s := parsed(t, base)
	wantFault(t, "the base", s, api.Fault{})
	for _, b := range slices.Concat(outsideBreaks(), headBreaks(), stmtBreaks(), laterBreaks()) {
		broken := copyOf(s)
		b.do(&broken)
		wantFault(t, b.field+": "+b.what, broken, b.want)
	}
}

// TestFirstOfTwoFaults brings the later fault in first, since some changes lay statements ahead of others.
func TestFirstOfTwoFaults(t *testing.T) { // P7.1, P0.1
	all := slices.Concat(outsideBreaks(), headBreaks(), stmtBreaks(), laterBreaks())
	s := parsed(t, base)
	for i, early := range all {
		for _, late := range all[i+1:] {
			broken := copyOf(s)
			if early.field == late.field {
				continue
			}
			late.do(&broken)
			if len(broken.Funcs[0].Body) != len(s.Funcs[0].Body) && early.want.Func == 0 && early.want.At >= 0 {
				continue // the early one would not find its statement where it stood
			}
			early.do(&broken)
			wantFault(t, early.field+": "+early.what+", and "+late.field+": "+late.what, broken, early.want)
		}
	}
}

func TestArgumentsOfCheckAreAnySource(t *testing.T) { // P1
	for _, s := range []api.Source{
		{Funcs: make([]api.FuncDecl, 1)}, {Globals: make([]api.Decl, 99)}, {Principals: make([]string, 99)}, {Arrays: make([]api.ArrayDecl, 3)}, {Channels: make([]api.Decl, 1)},
	} {
		wantFault(t, "empty things", s, fault(api.ErrArg, -1, 0))
		names.Find(s, 0, "")
	}
}
