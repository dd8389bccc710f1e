package names_test

import (
	"slices"
	"testing"

	"louver/api"
)

// one is a source of one function that is in order, and nothing else.
func one(change func(f *api.FuncDecl)) api.Source {
	f := api.FuncDecl{Name: "f", Body: []api.Stmt{ret()}}
	change(&f)
	return api.Source{Funcs: []api.FuncDecl{f}}
}

func TestHowManyDeclarations(t *testing.T) { // P7.1
	for what, c := range map[string]struct {
		most int
		of   func(n int) api.Source
	}{
		"principals": {64, func(n int) api.Source { return api.Source{Principals: strangers(n)} }},
		"globals":    {32, func(n int) api.Source { return api.Source{Globals: decls(n, "x")} }},
		"arrays":     {16, func(n int) api.Source { return api.Source{Arrays: arrays(n)} }},
		"channels":   {16, func(n int) api.Source { return api.Source{Channels: decls(n, "c")} }},
		"functions":  {32, func(n int) api.Source { return api.Source{Funcs: funcs(n)} }},
	} {
		wantFault(t, what, c.of(c.most), api.Fault{})
		for _, n := range []int{c.most + 1, c.most + 2, 1000} {
			wantFault(t, what, c.of(n), fault(api.ErrMany, -1, c.most))
		}
	}
	all := api.Source{Principals: strangers(64), Globals: decls(32, "x"), Arrays: arrays(16), Channels: decls(16, "c"), Funcs: funcs(32)}
	wantFault(t, "as much of all as there may be", all, api.Fault{})
	all.Funcs = append(all.Funcs, api.FuncDecl{})
	wantFault(t, "one more, of no name", all, fault(api.ErrMany, -1, 64+32+16+16+32))
}

func TestHowManyPartsOfAFunction(t *testing.T) { // P7.1
	for what, c := range map[string]struct {
		most int
		set  func(f *api.FuncDecl, n int)
	}{
		"params": {8, func(f *api.FuncDecl, n int) { f.Params = decls(n, "p") }},
		"results": {4, func(f *api.FuncDecl, n int) {
			f.Results = make([]api.Label, n)
			f.Body[0] = ret(slices.Repeat(exprs(terms(num(1))), n)...)
		}},
		"vars": {32, func(f *api.FuncDecl, n int) { f.Vars = decls(n, "v") }},
		"statements": {256, func(f *api.FuncDecl, n int) {
			f.Body = append(slices.Repeat([]api.Stmt{{Kind: api.SCall, Name: "f"}}, n-1), f.Body...)
		}},
	} {
		wantFault(t, what, one(func(f *api.FuncDecl) { c.set(f, c.most) }), api.Fault{})
		wantFault(t, what, one(func(f *api.FuncDecl) { c.set(f, c.most+1) }), fault(api.ErrMany, 0, -1))
		wantFault(t, what, one(func(f *api.FuncDecl) { c.set(f, 5000) }), fault(api.ErrMany, 0, -1))
	}
	wantFault(t, "40 locals", one(func(f *api.FuncDecl) { f.Params, f.Vars = decls(8, "p"), decls(32, "v") }), api.Fault{})
}

func TestHowDeepBlocksNest(t *testing.T) { // P7.1
	for n, want := range map[int]api.Fault{1: {}, 11: {}, 12: {}, 13: fault(api.ErrSyntax, 0, -1), 14: fault(api.ErrSyntax, 0, -1)} {
		wantFault(t, "whiles", one(func(f *api.FuncDecl) { nests(f, n) }), want)
		wantFault(t, "whiles behind whiles", one(func(f *api.FuncDecl) { nests(f, n); nests(f, 12) }), want)
		wantFault(t, "ifs with else", one(func(f *api.FuncDecl) { branches(f, n) }), want)
	}
}

// branches lays ifs in one another's else.
func branches(f *api.FuncDecl, n int) {
	start := []api.Stmt{{Kind: api.SIf, Exprs: exprs(terms(num(1)))}, {Kind: api.SElse}}
	f.Body = slices.Concat(slices.Repeat(start, n), slices.Repeat([]api.Stmt{{Kind: api.SEnd}}, n), f.Body)
}

func TestHowManyTermsAndExpressions(t *testing.T) { // P7.1
	signs := func(n int) []api.Term { return append(terms(num(1)), slices.Repeat(terms(unary(16)), n-1)...) }
	right := func(n int) []api.Term {
		return append(slices.Repeat(terms(num(1)), n+1), slices.Repeat(terms(binary(1)), n)...)
	}
	with := func(e []api.Term) api.Source {
		return one(func(f *api.FuncDecl) { f.Results = make([]api.Label, 2); f.Body = []api.Stmt{ret(terms(num(1)), e)} })
	}
	wantFault(t, "48 terms", with(signs(48)), api.Fault{})
	wantFault(t, "49 terms", with(signs(49)), fault(api.ErrMany, 0, 0))
	wantFault(t, "47 terms, within one another", with(right(23)), api.Fault{})
	wantFault(t, "49 terms, within one another", with(right(24)), fault(api.ErrMany, 0, 0))
	args := func(params, n int) api.Source {
		return one(func(f *api.FuncDecl) {
			f.Params = decls(params, "p")
			f.Body = []api.Stmt{{Kind: api.SCall, Name: "f", Exprs: slices.Repeat(exprs(terms(num(1))), n)}, ret()}
		})
	}
	wantFault(t, "8 arguments", args(8, 8), api.Fault{})
	wantFault(t, "9 arguments", args(8, 9), fault(api.ErrMany, 0, 0))
	wantFault(t, "8 arguments for 7", args(7, 8), fault(api.ErrCount, 0, 0))
	results := func(n int) api.Source {
		return one(func(f *api.FuncDecl) { f.Body = []api.Stmt{ret(slices.Repeat(exprs(terms(named("z"))), n)...)} })
	}
	wantFault(t, "9 results, of nothing known", results(9), fault(api.ErrMany, 0, 0))
	wantFault(t, "8 results, of nothing known", results(8), fault(api.ErrUnknown, 0, 0))
}

func TestLabelsOfAllPrincipals(t *testing.T) { // P7.1
	for n := range 65 {
		all := api.Label(1)<<n - 1
		s := api.Source{
			Principals: strangers(n), Globals: []api.Decl{{Name: "x", Label: all}}, Arrays: []api.ArrayDecl{{Name: "t", Len: 1, Label: all}}, Channels: []api.Decl{{Name: "c", Label: all}},
			Funcs: []api.FuncDecl{{Name: "f", Level: all, Params: []api.Decl{{Name: "p", Label: all}}, Vars: []api.Decl{{Name: "v", Label: all}}, Results: []api.Label{all}, Body: []api.Stmt{ret(terms(num(1)))}}},
		}
		wantFault(t, "all", s, api.Fault{})
		if n == 64 {
			return
		}
		f := &s.Funcs[0]
		labels := []*api.Label{&s.Globals[0].Label, &s.Arrays[0].Label, &s.Channels[0].Label, &f.Level, &f.Params[0].Label, &f.Vars[0].Label, &f.Results[0]}
		for k, l := range labels {
			want := fault(api.ErrPrincipal, 0, -1)
			if k < 3 {
				want = fault(api.ErrPrincipal, -1, n+k)
			}
			for _, more := range []api.Label{1 << n, 1 << 63} {
				*l |= more
				wantFault(t, "one more", s, want)
				*l = all
			}
		}
	}
}

// TestUsesMayBeMany has as many targets as a statement may have: the count is asked behind the names.
func TestUsesMayBeMany(t *testing.T) { // P7.1
	call := func(last string) api.Source {
		targets := append(slices.Repeat([]string{"v"}, 100000), last)
		return one(func(f *api.FuncDecl) {
			f.Vars = decls(1, "v")
			f.Vars[0].Name = "v"
			f.Body = []api.Stmt{{Kind: api.SCall, Name: "f", Targets: targets}, ret()}
		})
	}
	wantFault(t, "known", call("v"), fault(api.ErrCount, 0, 0))
	wantFault(t, "unknown", call("w"), fault(api.ErrUnknown, 0, 0))
	wantFault(t, "a function", call("f"), fault(api.ErrKind, 0, 0))
}
