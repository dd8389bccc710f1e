package names_test

import (
	"math/rand"
	"reflect"
	"slices"
	"testing"

	"louver/api"
	"louver/names"
	"louver/print"
)

func num(n int64) api.Term { return api.Term{Kind: api.TNumber, Value: n} }

func named(s string) api.Term { return api.Term{Kind: api.TName, Name: s} }

func index(s string) api.Term { return api.Term{Kind: api.TIndex, Name: s} }

func unary(op int64) api.Term { return api.Term{Kind: api.TUnary, Value: op} }

func binary(op int64) api.Term { return api.Term{Kind: api.TBinary, Value: op} }

func terms(l ...api.Term) []api.Term { return l }

func exprs(l ...[]api.Term) [][]api.Term { return l }

func wantFits(t *testing.T, want bool, x api.Stmt) {
	t.Helper()
	if got := names.Fits(x); got != want {
		t.Errorf("Fits of %.300v = %t", x, got)
	}
}

// fields has, by the statements' kinds, whether they have a Name, and how many targets and expressions (-1: any).
var fields = map[int][3]int{
	api.SAssign: {0, 1, 1}, api.SStore: {1, 0, 2}, api.SSend: {1, 0, 1}, api.SCall: {1, -1, -1}, api.SIf: {0, 0, 1},
	api.SElse: {0, 0, 0}, api.SWhile: {0, 0, 1}, api.SEnd: {0, 0, 0}, api.SReturn: {0, 0, -1},
}

func TestFieldsOfEachKind(t *testing.T) { // P7.3
	is := func(n, wanted int) bool { return wanted < 0 || n == wanted }
	for kind := -2; kind < 14; kind++ {
		wanted, ok := fields[kind]
		for n, name := range []string{"", "x"} {
			for targets := range 12 {
				for count := range 12 {
					x := api.Stmt{Kind: kind, Name: name, Targets: slices.Repeat([]string{"y"}, targets), Exprs: slices.Repeat(exprs(terms(num(1))), count)}
					wantFits(t, ok && n == wanted[0] && is(targets, wanted[1]) && is(count, wanted[2]), x)
				}
			}
		}
	}
	wantFits(t, false, api.Stmt{Kind: 1<<62 + api.SEnd})
	wantFits(t, true, api.Stmt{Kind: api.SEnd, Targets: []string{}, Exprs: exprs()})
}

// statements are one of each kind, with an expression that each place of an expression has.
func statements(e []api.Term) []api.Stmt {
	one, x := exprs(terms(num(0))), []string{"x"}
	return []api.Stmt{
		{Kind: api.SAssign, Targets: x, Exprs: exprs(e)}, {Kind: api.SStore, Name: "t", Exprs: append(one, e)}, {Kind: api.SStore, Name: "t", Exprs: exprs(e, one[0])},
		{Kind: api.SSend, Name: "c", Exprs: exprs(e)}, {Kind: api.SCall, Name: "f", Exprs: exprs(one[0], e)}, {Kind: api.SCall, Name: "f", Targets: x, Exprs: exprs(e)},
		{Kind: api.SIf, Exprs: exprs(e)}, {Kind: api.SWhile, Exprs: exprs(e)}, {Kind: api.SReturn, Exprs: exprs(e, one[0], one[0])}, {Kind: api.SReturn, Exprs: exprs(one[0], e)},
	}
}

func wantWhole(t *testing.T, want bool, e ...api.Term) {
	t.Helper()
	for _, x := range statements(e) {
		wantFits(t, want, x)
	}
}

func TestWholeExpressions(t *testing.T) { // P7.3
	a, b, c := named("a"), named("b"), num(7)
	for _, e := range [][]api.Term{
		{a}, {c}, {num(1<<63 - 1)}, {num(0)}, {a, index("t")}, {a, unary(15)}, {a, unary(16)}, {a, unary(17), unary(15)}, {a, b, binary(1)}, {a, b, binary(14)},
		{a, b, c, binary(3), binary(2)}, {a, b, binary(3), c, binary(2)}, {a, b, index("t"), binary(4), unary(16)}, {a, index("t"), index("t"), index("u")},
	} {
		wantWhole(t, true, e...)
	}
	for _, e := range [][]api.Term{
		nil, {}, {a, b}, {a, b, c}, {unary(15)}, {index("t")}, {binary(1)}, {a, binary(1)}, {binary(1), a, b}, {a, binary(1), b}, {a, unary(15), b}, {a, b, unary(15)},
		{a, b, binary(1), c}, {a, b, c, binary(1)}, {a, b, binary(1), binary(1)}, {index("t"), a}, {a, binary(1), b, binary(1), c}, {unary(15), a}, {a, a, index("t")},
	} {
		wantWhole(t, false, e...)
	}
}

func TestTerms(t *testing.T) { // P7.3
	a := named("a")
	for v := int64(-3); v < 24; v++ {
		wantWhole(t, v >= 0, num(v))
		wantWhole(t, 15 <= v && v <= 17, a, unary(v))
		wantWhole(t, 1 <= v && v <= 14, a, a, binary(v))
		wantWhole(t, v == 0, api.Term{Kind: api.TName, Name: "a", Value: v})
		wantWhole(t, v == 0, a, api.Term{Kind: api.TIndex, Name: "t", Value: v})
		wantWhole(t, false, api.Term{Kind: api.TNumber, Name: "a", Value: v})
		wantWhole(t, false, a, api.Term{Kind: api.TUnary, Name: "a", Value: v})
		wantWhole(t, false, a, a, api.Term{Kind: api.TBinary, Name: "a", Value: v})
	}
	for _, v := range []int64{-1 << 63, 1<<32 + 1, 1<<63 - 1, 1<<62 + 15} {
		wantWhole(t, v >= 0, num(v))
		wantWhole(t, false, a, unary(v))
		wantWhole(t, false, a, a, binary(v))
		wantWhole(t, false, api.Term{Kind: api.TName, Name: "a", Value: v})
	}
	for _, kind := range []int{-1, 0, 6, 7, 1 << 40} {
		for _, name := range []string{"", "a"} {
			wantWhole(t, false, api.Term{Kind: kind, Name: name})
			wantWhole(t, false, a, api.Term{Kind: kind, Name: name, Value: 15})
			wantWhole(t, false, a, a, api.Term{Kind: kind, Name: name, Value: 1})
		}
	}
}

func TestNamesOfStatements(t *testing.T) { // P7.3
	for _, name := range []string{"a", "_", "x1", "if_", "", "if", "1", "A", "a b", " a", "a.b", "nnnnnnnnnnnnnnnnnnnnnnnnnnnnnnnn", "nnnnnnnnnnnnnnnnnnnnnnnnnnnnnnnnn"} {
		good := names.Name(name)
		one := exprs(terms(num(1)))
		wantFits(t, good, api.Stmt{Kind: api.SAssign, Targets: []string{name}, Exprs: one})
		wantFits(t, good, api.Stmt{Kind: api.SStore, Name: name, Exprs: append(one, one...)})
		wantFits(t, good, api.Stmt{Kind: api.SSend, Name: name, Exprs: one})
		wantFits(t, good, api.Stmt{Kind: api.SCall, Name: name, Exprs: one})
		wantFits(t, good, api.Stmt{Kind: api.SCall, Name: "f", Targets: []string{"x", name, "y"}})
		wantWhole(t, good, named(name))
		wantWhole(t, good, num(1), index(name))
	}
}

// TestFitsBeyondLimits has what the grammar has no bound on: these are looked at behind it.
func TestFitsBeyondLimits(t *testing.T) { // P7.3
	for _, n := range []int{1, 11, 12, 13, 48, 49, 3000} {
		wantWhole(t, true, append(slices.Repeat(terms(num(1)), n+1), slices.Repeat(terms(binary(1)), n)...)...)
		wantWhole(t, true, append(terms(num(1)), slices.Repeat(terms(index("t")), n)...)...)
		wantWhole(t, true, append(terms(num(1)), slices.Repeat(terms(unary(15)), n)...)...)
		wantFits(t, true, api.Stmt{Kind: api.SCall, Name: "f", Targets: slices.Repeat([]string{"x"}, n), Exprs: slices.Repeat(exprs(terms(num(1))), n)})
		wantFits(t, true, api.Stmt{Kind: api.SReturn, Exprs: slices.Repeat(exprs(terms(num(1))), n)})
	}
}

// modelFits asks the printer for a text that is read as the statement, within a body in which it may stand. Its texts are bounded: it is asked of small statements alone.
func modelFits(x api.Stmt) bool {
	on := exprs(terms(num(1)))
	branch, end, last := api.Stmt{Kind: api.SIf, Exprs: on}, api.Stmt{Kind: api.SEnd}, api.Stmt{Kind: api.SReturn}
	body := []api.Stmt{x, last}
	switch x.Kind {
	case api.SIf, api.SWhile:
		body = []api.Stmt{x, end, last}
	case api.SElse:
		body = []api.Stmt{branch, x, end, last}
	case api.SEnd:
		body = []api.Stmt{branch, x, last}
	case api.SReturn:
		body = []api.Stmt{x}
	}
	_, err := print.Source(api.Source{Funcs: []api.FuncDecl{{Name: "f", Body: body}}})
	return err == api.OK
}

func TestFitsIfItIsRead(t *testing.T) { // P7.3
	r := rand.New(rand.NewSource(73))
	count := map[bool]int{}
	for range 20000 {
		m := &maker{r: r}
		x := m.anyStmt()
		for range r.Intn(3) {
			change(r, reflect.ValueOf(&x).Elem())
		}
		want := modelFits(x)
		count[want]++
		if got := names.Fits(x); got != want {
			t.Fatalf("Fits of %+v = %t", x, got)
		}
	}
	if count[true] < 5000 || count[false] < 5000 {
		t.Errorf("statements that fit, and others: %v", count)
	}
}
