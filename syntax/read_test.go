package syntax_test

import (
	"math/rand"
	"reflect"
	"slices"
	"strconv"
	"strings"
	"testing"

	"louver/api"
	"louver/syntax"
)

// writer makes a source and its words, by chance, side by side.
type writer struct {
	r          *rand.Rand
	principals []string
	words      []string
}

func (w *writer) put(words ...string) { w.words = append(w.words, words...) }

func (w *writer) name() string {
	n := []string{"a", "b", "t", "_", "if_", "x1", strings.Repeat("n", 32)}[w.r.Intn(7)]
	w.put(n)
	return n
}

func (w *writer) label() api.Label {
	var l api.Label
	w.put("{")
	for len(w.principals) > 0 && w.r.Intn(2) == 0 {
		p := w.principals[w.r.Intn(len(w.principals))]
		l |= 1 << slices.Index(w.principals, p)
		w.put(p)
	}
	w.put("}")
	return l
}

func (w *writer) source() api.Source {
	var s api.Source
	for range w.r.Intn(3) {
		w.put("principal")
		for range 1 + w.r.Intn(30) {
			w.principals = append(w.principals, "p"+strconv.Itoa(w.r.Intn(40)))
			w.put(w.principals[len(w.principals)-1])
		}
		w.put(";")
	}
	s.Principals = w.principals
	for range w.r.Intn(6) {
		switch w.r.Intn(4) {
		case 0:
			w.put("global")
			s.Globals = append(s.Globals, w.declLine())
		case 1:
			w.put("channel")
			s.Channels = append(s.Channels, w.declLine())
		case 2:
			w.put("array")
			a := api.ArrayDecl{Name: w.name()}
			a.Len = int(w.number())
			a.Label = w.label()
			w.put(";")
			s.Arrays = append(s.Arrays, a)
		case 3:
			s.Funcs = append(s.Funcs, w.function())
		}
	}
	return s
}

func (w *writer) number() int64 {
	n := []int64{0, 1, 257, 1<<63 - 1, w.r.Int63()}[w.r.Intn(5)]
	w.put(strings.Repeat("0", w.r.Intn(2)) + strconv.FormatInt(n, 10))
	return n
}

func (w *writer) decl() api.Decl {
	name := w.name()
	return api.Decl{Name: name, Label: w.label()}
}

func (w *writer) declLine() api.Decl {
	d := w.decl()
	w.put(";")
	return d
}

// list writes up to three items and commas between them.
func (w *writer) list(item func()) {
	for i := range w.r.Intn(4) {
		if i > 0 {
			w.put(",")
		}
		item()
	}
}

func (w *writer) function() api.FuncDecl {
	w.put("func")
	f := api.FuncDecl{Name: w.name()}
	f.Level = w.label()
	w.put("(")
	w.list(func() { f.Params = append(f.Params, w.decl()) })
	w.put(")", "(")
	w.list(func() { f.Results = append(f.Results, w.label()) })
	w.put(")", "{")
	for range w.r.Intn(3) {
		w.put("var")
		f.Vars = append(f.Vars, w.declLine())
	}
	f.Body = w.stmts(nil, 0)
	w.put("return")
	f.Body = append(f.Body, api.Stmt{Kind: api.SReturn, Exprs: w.exprs()})
	w.put(";", "}")
	return f
}

func (w *writer) exprs() [][]api.Term {
	var all [][]api.Term
	w.list(func() { all = append(all, w.expr()) })
	return all
}

// expr makes an expression's words by its tree: bracketed where the chapter's levels want it, and at times besides.
func (w *writer) expr() []api.Term {
	e := w.tree(3)
	w.put(e.words...)
	return e.terms
}

func (w *writer) stmts(body []api.Stmt, deep int) []api.Stmt {
	for range w.r.Intn(4) {
		switch kind := 1 + w.r.Intn(6); {
		case kind == 1:
			s := api.Stmt{Kind: api.SAssign, Targets: []string{w.name()}}
			w.put("=")
			s.Exprs = [][]api.Term{w.expr()}
			body = append(body, s)
			w.put(";")
		case kind == 2:
			s := api.Stmt{Kind: api.SStore, Name: w.name()}
			w.put("[")
			index := w.expr()
			w.put("]", "=")
			s.Exprs = [][]api.Term{index, w.expr()}
			body = append(body, s)
			w.put(";")
		case kind == 3:
			w.put("send")
			s := api.Stmt{Kind: api.SSend, Name: w.name()}
			s.Exprs = [][]api.Term{w.expr()}
			body = append(body, s)
			w.put(";")
		case kind == 4:
			body = append(body, w.call())
		case deep < 4:
			body = w.block(body, deep, kind == 5)
		}
	}
	return body
}

func (w *writer) call() api.Stmt {
	s := api.Stmt{Kind: api.SCall}
	w.list(func() { s.Targets = append(s.Targets, w.name()) })
	if len(s.Targets) > 0 {
		w.put("=")
	}
	s.Name = w.name()
	w.put("(")
	s.Exprs = w.exprs()
	w.put(")", ";")
	return s
}

func (w *writer) block(body []api.Stmt, deep int, branch bool) []api.Stmt {
	kind := api.SWhile
	if branch {
		kind = api.SIf
		w.put("if")
	} else {
		w.put("while")
	}
	body = append(body, api.Stmt{Kind: kind, Exprs: [][]api.Term{w.expr()}})
	w.put("{")
	body = w.stmts(body, deep+1)
	w.put("}")
	if branch && w.r.Intn(2) == 0 {
		w.put("else", "{")
		body = w.stmts(append(body, api.Stmt{Kind: api.SElse}), deep+1)
		w.put("}")
	}
	return append(body, api.Stmt{Kind: api.SEnd})
}

// tree is an expression: its words, its terms told backward, and how tightly it holds together.
type tree struct {
	words []string
	terms []api.Term
	level int
}

// bracketed sets brackets around what has too low a level, and at times where none are needed.
func (w *writer) bracketed(e tree, least int) []string {
	if e.level >= least && w.r.Intn(8) > 0 {
		return e.words
	}
	return slices.Concat([]string{"("}, e.words, []string{")"})
}

func (w *writer) tree(deep int) tree {
	sort := w.r.Intn(5)
	if deep == 0 {
		sort = w.r.Intn(2)
	}
	v := &writer{r: w.r}
	switch sort {
	case 0:
		n := v.number()
		return tree{v.words, []api.Term{{Kind: api.TNumber, Value: n}}, 7}
	case 1:
		n := v.name()
		return tree{v.words, []api.Term{{Kind: api.TName, Name: n}}, 7}
	case 2:
		n := v.name()
		e := w.tree(deep - 1)
		return tree{slices.Concat(v.words, []string{"["}, e.words, []string{"]"}), append(e.terms, api.Term{Kind: api.TIndex, Name: n}), 7}
	case 3:
		k := w.r.Intn(3)
		e := w.tree(deep - 1)
		words := append([]string{[]string{"-", "!", "~"}[k]}, w.bracketed(e, 6)...)
		return tree{words, append(e.terms, api.Term{Kind: api.TUnary, Value: int64(15 + k)}), 6}
	}
	return w.binary(deep)
}

func (w *writer) binary(deep int) tree {
	k := w.r.Intn(14)
	sign := strings.Fields("+ - * / % & | ^ << >> == != < <=")[k]
	level := []int{4, 4, 5, 5, 5, 2, 1, 1, 3, 3, 0, 0, 0, 0}[k]
	a, b := w.tree(deep-1), w.tree(deep-1)
	words := slices.Concat(w.bracketed(a, level), []string{sign}, w.bracketed(b, level+1))
	terms := append(slices.Concat(a.terms, b.terms), api.Term{Kind: api.TBinary, Value: int64(1 + k)})
	return tree{words, terms, level}
}

func TestParseOfWrittenSources(t *testing.T) { // P5.1, P5.4, P5.5
	r := rand.New(rand.NewSource(53))
	for range 3000 {
		w := &writer{r: r}
		want := w.source()
		text := spaced(r, w.words)
		got, f := syntax.Parse(text)
		if f != (api.Fault{}) || !equal(got, want) {
			t.Fatalf("Parse of %q = %+v, %+v, want %+v", text, got, f, want)
		}
		wantWhole(t, text, got)
		wantOwnMemory(t, text, got)
	}
}

func TestExprOfWrittenExpressions(t *testing.T) { // P5.2, P5.4
	r := rand.New(rand.NewSource(54))
	for range 5000 {
		w := &writer{r: r}
		e := w.tree(5)
		text := spaced(r, e.words)
		got, f := syntax.Expr(text)
		if f != (api.Fault{}) || !slices.Equal(got, e.terms) {
			t.Fatalf("Expr of %q = %+v, %+v, want %+v", text, got, f, e.terms)
		}
		wantOwnMemory(t, text, got)
	}
}

// whole is the chapter's rule of P5.4.
func whole(l []api.Term) bool {
	values := 0
	for _, x := range l {
		switch x.Kind {
		case api.TNumber, api.TName:
			values++
		case api.TIndex, api.TUnary:
			if values < 1 {
				return false
			}
		case api.TBinary:
			if values < 2 {
				return false
			}
			values--
		default:
			return false
		}
	}
	return values == 1
}

// wantWhole holds a source that was read against P5.4.
func wantWhole(t *testing.T, text string, s api.Source) {
	t.Helper()
	for _, f := range s.Funcs {
		returns := 0
		for _, x := range f.Body {
			if x.Kind == api.SReturn {
				returns++
			}
			for _, e := range x.Exprs {
				if !whole(e) {
					t.Fatalf("%q: the expression %+v is not whole", text, e)
				}
			}
		}
		if n := len(f.Body); returns != 1 || f.Body[n-1].Kind != api.SReturn {
			t.Fatalf("%q: %d returns in %+v", text, returns, f.Body)
		}
		if _, _, ok := syntax.Ends(f.Body); !ok {
			t.Fatalf("%q: blocks of %+v do not nest", text, f.Body)
		}
	}
}

// equal takes no list and an empty one for the same.
func equal(a, b any) bool {
	return reflect.DeepEqual(tidy(reflect.ValueOf(a)), tidy(reflect.ValueOf(b)))
}

// tidy is a value as nested lists, without its lists' emptiness.
func tidy(v reflect.Value) any {
	switch v.Kind() {
	case reflect.Struct:
		var all []any
		for i := range v.NumField() {
			all = append(all, tidy(v.Field(i)))
		}
		return all
	case reflect.Slice:
		all := []any{}
		for i := range v.Len() {
			all = append(all, tidy(v.Index(i)))
		}
		return all
	}
	return v.Interface()
}

func isZero(s api.Source) bool { return equal(s, api.Source{}) }
