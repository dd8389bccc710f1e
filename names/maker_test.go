package names_test

import (
	"fmt"
	"math/rand"
	"reflect"
	"slices"
	"strings"

	"louver/api"
)

// maker makes sources by chance, in which no fault is: it knows what it has declared.
type maker struct {
	r      *rand.Rand
	s      api.Source
	f      int      // the function whose body is being made
	values []string // locals and globals that may be used there
}

// fresh are names that a source's declarations have, one each.
func fresh(n int) string {
	if n == 0 {
		return "_"
	}
	return []string{"a", "if_", "n" + strings.Repeat("x", 29)}[n%3] + fmt.Sprint(n%100)
}

func pick[T any](r *rand.Rand, l []T) T { return l[r.Intn(len(l))] }

func (m *maker) label() api.Label {
	return api.Label(m.r.Uint64()) & (1<<len(m.s.Principals) - 1)
}

// source begins with the declarations: a body uses what stands behind it, too.
func (m *maker) source() api.Source {
	n := 0
	next := func() string { n++; return fresh(n - 1) }
	decls := func(most int) []api.Decl {
		var l []api.Decl
		for range m.r.Intn(most) {
			l = append(l, api.Decl{Name: next(), Label: m.label()})
		}
		return l
	}
	for k := range m.r.Intn(4) {
		m.s.Principals = append(m.s.Principals, fresh(3*k))
	}
	m.s.Globals, m.s.Channels = decls(4), decls(3)
	for range m.r.Intn(3) {
		m.s.Arrays = append(m.s.Arrays, api.ArrayDecl{Name: next(), Len: 1 + m.r.Intn(256), Label: m.label()})
	}
	for range m.r.Intn(4) {
		m.s.Funcs = append(m.s.Funcs, api.FuncDecl{Name: next(), Level: m.label(), Results: make([]api.Label, m.r.Intn(3))})
	}
	outside := n
	for f := range m.s.Funcs {
		n = outside // functions share their locals' names with one another
		m.s.Funcs[f].Params, m.s.Funcs[f].Vars = decls(4), decls(3)
	}
	for f := range m.s.Funcs {
		m.body(f)
	}
	return m.s
}

func (m *maker) body(f int) {
	m.f, m.values = f, nil
	for _, d := range slices.Concat(m.s.Funcs[f].Params, m.s.Funcs[f].Vars, m.s.Globals) {
		m.values = append(m.values, d.Name)
	}
	results := m.some(len(m.s.Funcs[f].Results))
	m.s.Funcs[f].Body = append(m.block(2), api.Stmt{Kind: api.SReturn, Exprs: results})
}

func (m *maker) some(n int) [][]api.Term {
	var l [][]api.Term
	for range n {
		l = append(l, m.expr(2))
	}
	return l
}

func (m *maker) expr(deep int) []api.Term {
	sort := m.r.Intn(6)
	switch {
	case deep > 0 && sort < 2:
		return slices.Concat(m.expr(deep-1), m.expr(deep-1), terms(binary(1+int64(m.r.Intn(14)))))
	case deep > 0 && sort == 2:
		return append(m.expr(deep-1), unary(15+int64(m.r.Intn(3))))
	case deep > 0 && sort == 3 && len(m.s.Arrays) > 0:
		return append(m.expr(deep-1), index(pick(m.r, m.s.Arrays).Name))
	case sort < 5 && len(m.values) > 0:
		return terms(named(pick(m.r, m.values)))
	}
	return terms(num(m.r.Int63() >> m.r.Intn(63)))
}

func (m *maker) block(deep int) []api.Stmt {
	var l []api.Stmt
	for range m.r.Intn(4) {
		l = append(l, m.stmts(deep)...)
	}
	return l
}

func (m *maker) stmts(deep int) []api.Stmt {
	sort := m.r.Intn(6)
	switch {
	case sort == 0 && len(m.values) > 0:
		return []api.Stmt{{Kind: api.SAssign, Targets: []string{pick(m.r, m.values)}, Exprs: m.some(1)}}
	case sort == 1 && len(m.s.Arrays) > 0:
		return []api.Stmt{{Kind: api.SStore, Name: pick(m.r, m.s.Arrays).Name, Exprs: m.some(2)}}
	case sort == 2 && len(m.s.Channels) > 0:
		return []api.Stmt{{Kind: api.SSend, Name: pick(m.r, m.s.Channels).Name, Exprs: m.some(1)}}
	case sort == 3 && len(m.s.Funcs) > 0:
		return []api.Stmt{m.call()}
	case sort > 3 && deep > 0:
		return m.nested(4+sort%2, deep-1)
	}
	return nil
}

func (m *maker) call() api.Stmt {
	d := pick(m.r, m.s.Funcs)
	x := api.Stmt{Kind: api.SCall, Name: d.Name, Exprs: m.some(len(d.Params))}
	if len(m.values) > 0 && m.r.Intn(2) == 0 {
		for range d.Results {
			x.Targets = append(x.Targets, pick(m.r, m.values))
		}
	}
	return x
}

func (m *maker) nested(sort, deep int) []api.Stmt {
	end := []api.Stmt{{Kind: api.SEnd}}
	if sort == 4 {
		return slices.Concat([]api.Stmt{{Kind: api.SWhile, Exprs: m.some(1)}}, m.block(deep), end)
	}
	branch := append([]api.Stmt{{Kind: api.SIf, Exprs: m.some(1)}}, m.block(deep)...)
	if m.r.Intn(2) == 0 {
		branch = append(append(branch, api.Stmt{Kind: api.SElse}), m.block(deep)...)
	}
	return append(branch, end...)
}

// anyStmt is a statement of any kind, alone.
func (m *maker) anyStmt() api.Stmt {
	m.s = api.Source{Globals: []api.Decl{{Name: "x"}}, Arrays: []api.ArrayDecl{{Name: "t"}}, Channels: []api.Decl{{Name: "c"}}, Funcs: []api.FuncDecl{{Name: "f", Params: make([]api.Decl, 2), Results: make([]api.Label, 2)}}}
	m.values = []string{"x", "y"}
	all := []api.Stmt{{Kind: api.SElse}, {Kind: api.SReturn, Exprs: m.some(m.r.Intn(3))}}
	for range 5 {
		all = append(all, m.stmts(1)...)
	}
	return pick(m.r, all)
}

// change alters one thing of a value, by chance.
func change(r *rand.Rand, v reflect.Value) {
	switch v.Kind() {
	case reflect.Struct:
		change(r, v.Field(r.Intn(v.NumField())))
	case reflect.Slice:
		changeList(r, v)
	case reflect.String:
		v.SetString(pick(r, []string{"", "if", "1", "a b", "zz", "_", "a1", "if_4", "a7", fresh(2), fresh(5), fresh(r.Intn(20))}))
	case reflect.Uint64:
		v.SetUint(v.Uint() ^ 1<<r.Intn(6))
	default:
		v.SetInt(pick(r, []int64{v.Int() + 1, v.Int() - 1, 0, -1, 257, int64(r.Intn(20))}))
	}
}

// changeList alters an element, or puts one in, or leaves one out, or has two change places.
func changeList(r *rand.Rand, v reflect.Value) {
	n := v.Len()
	i := r.Intn(n + 1)
	sort := r.Intn(8)
	if i == n || sort == 0 {
		insert(r, v, i)
		return
	}
	switch sort {
	case 1:
		v.Set(reflect.AppendSlice(reflect.AppendSlice(reflect.MakeSlice(v.Type(), 0, n), v.Slice(0, i)), v.Slice(i+1, n)))
	case 2:
		reflect.Swapper(v.Interface())(i, r.Intn(n))
	default:
		change(r, v.Index(i))
	}
}

// insert puts one more element in: one that is there, or an empty one.
func insert(r *rand.Rand, v reflect.Value, i int) {
	n := v.Len()
	one := reflect.Zero(v.Type().Elem())
	if n > 0 && r.Intn(3) > 0 {
		one = copied(v.Index(r.Intn(n)))
	}
	all := reflect.AppendSlice(reflect.MakeSlice(v.Type(), 0, n+1), v.Slice(0, i))
	v.Set(reflect.AppendSlice(reflect.Append(all, one), v.Slice(i, n)))
}

// copied is a value with memory of its own, to the last list.
func copied(v reflect.Value) reflect.Value {
	c := reflect.New(v.Type()).Elem()
	switch v.Kind() {
	case reflect.Struct:
		for i := range v.NumField() {
			c.Field(i).Set(copied(v.Field(i)))
		}
	case reflect.Slice:
		for i := range v.Len() {
			c.Set(reflect.Append(c, copied(v.Index(i))))
		}
	default:
		c.Set(v)
	}
	return c
}

func copyOf(s api.Source) api.Source { return copied(reflect.ValueOf(s)).Interface().(api.Source) }
