package print_test

import (
	"fmt"
	"math/rand"
	"reflect"
	"slices"
	"strings"
	"testing"

	"louver/api"
	"louver/print"
	"louver/syntax"
)

// maker makes sources by chance, of which each has a text.
type maker struct {
	r          *rand.Rand
	principals []string
}

func (m *maker) name() string {
	return []string{"a", "b", "t", "_", "if_", "x1", strings.Repeat("n", 32)}[m.r.Intn(7)]
}

// label has numbers only whose names stand nowhere ahead.
func (m *maker) label() api.Label {
	var l api.Label
	for k, p := range m.principals {
		if m.r.Intn(3) == 0 && slices.Index(m.principals, p) == k {
			l |= 1 << k
		}
	}
	return l
}

func (m *maker) decl() api.Decl { return api.Decl{Name: m.name(), Label: m.label()} }

func some[T any](m *maker, one func() T) []T {
	var all []T
	for range m.r.Intn(4) {
		all = append(all, one())
	}
	return all
}

func (m *maker) expr() []api.Term { return randomTree(m.r, 2).terms() }

func (m *maker) source() api.Source {
	for range m.r.Intn(12) {
		m.principals = append(m.principals, fmt.Sprint("p", m.r.Intn(12)))
	}
	array := func() api.ArrayDecl {
		return api.ArrayDecl{Name: m.name(), Len: m.r.Intn(300), Label: m.label()}
	}
	return api.Source{Principals: slices.Clone(m.principals), Globals: some(m, m.decl), Arrays: some(m, array), Channels: some(m, m.decl), Funcs: some(m, m.function)}
}

func (m *maker) function() api.FuncDecl {
	return api.FuncDecl{
		Name: m.name(), Level: m.label(), Params: some(m, m.decl), Results: some(m, m.label), Vars: some(m, m.decl),
		Body: append(m.body(3), ret(some(m, m.expr)...)),
	}
}

func (m *maker) body(deep int) []api.Stmt {
	var all []api.Stmt
	for range m.r.Intn(4) {
		all = append(all, m.stmt(deep)...)
	}
	return all
}

func (m *maker) stmt(deep int) []api.Stmt {
	s := api.Stmt{Kind: 1 + m.r.Intn(6)}
	if s.Kind > 4 && deep == 0 {
		s.Kind = api.SSend
	}
	switch s.Kind {
	case api.SAssign:
		s.Targets, s.Exprs = []string{m.name()}, [][]api.Term{m.expr()}
	case api.SStore:
		s.Name, s.Exprs = m.name(), [][]api.Term{m.expr(), m.expr()}
	case api.SSend:
		s.Name, s.Exprs = m.name(), [][]api.Term{m.expr()}
	case api.SCall:
		s.Name, s.Targets, s.Exprs = m.name(), some(m, m.name), some(m, m.expr)
	case 6:
		s.Kind = api.SWhile
		fallthrough
	default:
		s.Exprs = [][]api.Term{m.expr()}
		all := append([]api.Stmt{s}, m.body(deep-1)...)
		if s.Kind == api.SIf && m.r.Intn(2) == 0 {
			all = append(append(all, api.Stmt{Kind: api.SElse}), m.body(deep-1)...)
		}
		return append(all, api.Stmt{Kind: api.SEnd})
	}
	return []api.Stmt{s}
}

func TestSourceOfMadeSources(t *testing.T) { // P6.1, P6.4
	r := rand.New(rand.NewSource(63))
	for range 600 {
		s := (&maker{r: r}).source()
		text, err := print.Source(s)
		if want := modelText(s); text != want || err != api.OK {
			t.Fatalf("Source = %d and\n%swant\n%s", err, text, want)
		}
		if read, f := syntax.Parse(text); f != (api.Fault{}) || !equal(read, s) {
			t.Fatalf("Parse of Source: %+v, or another source:\n%s", f, text)
		}
	}
}

// change alters one thing of a value, by chance.
func change(r *rand.Rand, v reflect.Value) {
	switch v.Kind() {
	case reflect.Struct:
		change(r, v.Field(r.Intn(v.NumField())))
	case reflect.Slice:
		changeList(r, v)
	case reflect.String:
		v.SetString([]string{"", "a", "if", "1", "a b", "p0", "}", "a {}; b", "\n", "#", strings.Repeat("n", 33)}[r.Intn(11)])
	case reflect.Uint64:
		v.SetUint(v.Uint() ^ 1<<r.Intn(16))
	default:
		v.SetInt([]int64{v.Int() + 1, v.Int() - 1, 0, -1, int64(r.Intn(20))}[r.Intn(5)])
	}
}

func changeList(r *rand.Rand, v reflect.Value) {
	n := v.Len()
	if n > 0 && r.Intn(4) > 0 {
		change(r, v.Index(r.Intn(n)))
		return
	}
	i := r.Intn(n + 1)
	all := reflect.MakeSlice(v.Type(), 0, n+1)
	all = reflect.AppendSlice(all, v.Slice(0, i))
	switch {
	case i == n || r.Intn(3) == 0:
		all = reflect.AppendSlice(reflect.Append(all, reflect.Zero(v.Type().Elem())), v.Slice(i, n))
	case r.Intn(2) == 0:
		all = reflect.AppendSlice(all, v.Slice(i+1, n))
	default:
		all = reflect.AppendSlice(reflect.Append(all, v.Index(i)), v.Slice(i, n))
	}
	v.Set(all)
}

// changed is a made source with a few things altered, most often in a body.
func changed(r *rand.Rand) api.Source {
	s := (&maker{r: r}).source()
	for range 1 + r.Intn(3) {
		v := reflect.ValueOf(&s).Elem()
		if len(s.Funcs) > 0 && r.Intn(3) > 0 {
			v = reflect.ValueOf(&s.Funcs[r.Intn(len(s.Funcs))]).Elem()
			if r.Intn(3) > 0 {
				v = v.FieldByName("Body")
			}
		}
		change(r, v)
	}
	return s
}

func TestSourceOfChangedSources(t *testing.T) { // P6.1, P1
	r := rand.New(rand.NewSource(64))
	seen := map[api.Errno]int{}
	for range 5000 {
		s := changed(r)
		want := modelText(s)
		err := api.ErrArg
		if read, f := syntax.Parse(want); f == (api.Fault{}) && equal(read, s) {
			err = api.OK
		} else {
			want = ""
		}
		seen[err]++
		if got, gotErr := print.Source(s); got != want || gotErr != err {
			t.Fatalf("Source of\n%s= %q, %d, want %q, %d", modelText(s), got, gotErr, want, err)
		}
	}
	if seen[api.OK] < 300 || seen[api.ErrArg] < 300 {
		t.Errorf("%d sources have a text, %d have none", seen[api.OK], seen[api.ErrArg])
	}
}

// Parse reads many texts as one source: that has a text of its own.
func TestSourceOfParse(t *testing.T) { // P6.4
	r := rand.New(rand.NewSource(65))
	for _, text := range []string{
		"principal a; principal b a; global x {b a b a}; channel c {}; array t 007 {a}; global y {}; func f {} () () { return ((1)); } array u 1 {};",
		"func f{}(a{},a{})(){var v{};if((1)){}else{}while(a[((2))]){if 1{}}x,x=f((1),-(-1));return a,(b)-(c);}#",
	} {
		s, f := syntax.Parse(text)
		if f != (api.Fault{}) {
			t.Fatalf("%q has the fault %+v", text, f)
		}
		wantText(t, s, strings.Split(strings.TrimSuffix(modelText(s), "\n"), "\n")...)
	}
	for range 300 {
		s := (&maker{r: r}).source()
		loose := written(s, func(l []api.Term) string { return "((" + modelTree(l).full() + "))" })
		loose = strings.NewReplacer("\n", "", " ", []string{" ", "\n", "# } \n\t"}[r.Intn(3)]).Replace(loose)
		read, f := syntax.Parse(loose)
		if f != (api.Fault{}) {
			t.Fatalf("%q has the fault %+v", loose, f)
		}
		if got, err := print.Source(read); got != modelText(s) || err != api.OK {
			t.Fatalf("Source of what %q is = %q, %d", loose, got, err)
		}
	}
}

// lengthOf finds how long the text of a source is, though it may have none: by how long the name of one global more may be.
func lengthOf(s api.Source) int {
	const others = len("global  {};\n")
	name := strings.Repeat("n", api.MaxText)
	globals := s.Globals
	low, high := 0, api.MaxText // the name may be low bytes long, and not high ones
	for high-low > 1 {
		mid := (low + high) / 2
		s.Globals = append([]api.Decl{{Name: name[:mid]}}, globals...)
		if _, err := print.Source(s); err == api.ErrLong {
			high = mid
		} else {
			low = mid
		}
	}
	return api.MaxText - others - low
}

func TestLengthOfChangedSources(t *testing.T) { // P6.1
	r := rand.New(rand.NewSource(66))
	for range 300 {
		s := changed(r)
		if got, want := lengthOf(s), len(modelText(s)); got != want {
			t.Fatalf("%d bytes, want %d:\n%s", got, want, modelText(s))
		}
	}
}

func TestLengthOfStatementsThatLackSomething(t *testing.T) { // P6.1
	head := len("func f {} () () {\n}\n")
	one, none := [][]api.Term{terms(num(1))}, [][]api.Term{terms(num(-1))}
	end, branch := api.Stmt{Kind: api.SEnd}, api.Stmt{Kind: api.SIf}
	for _, c := range []struct {
		want string
		body []api.Stmt
	}{
		{"   = ;\n", []api.Stmt{{Kind: api.SAssign}}},
		{"  , x = ;\n", []api.Stmt{{Kind: api.SAssign, Targets: []string{"", "x"}, Exprs: none}}},
		{"  x = 1;\n", []api.Stmt{{Kind: api.SAssign, Name: "y", Targets: []string{"x"}, Exprs: append(one, one...)}}},
		{"  [] = ;\n", []api.Stmt{{Kind: api.SStore}}},
		{"  t[1] = ;\n", []api.Stmt{{Kind: api.SStore, Name: "t", Exprs: one}}},
		{"  t[] = 1;\n", []api.Stmt{{Kind: api.SStore, Name: "t", Exprs: append(none, one...)}}},
		{"  send  ;\n", []api.Stmt{{Kind: api.SSend, Targets: []string{"x"}}}},
		{"  ();\n", []api.Stmt{{Kind: api.SCall}}},
		{"   = f(, 1);\n", []api.Stmt{{Kind: api.SCall, Name: "f", Targets: []string{""}, Exprs: append(none, one...)}}},
		{"  return , , 1;\n", []api.Stmt{{Kind: api.SReturn, Exprs: slices.Concat(none, none, one)}}},
		{"  return ;\n", []api.Stmt{{Kind: api.SReturn, Exprs: [][]api.Term{nil}}}},
		{"", []api.Stmt{{}, {Kind: -1, Name: "x"}, {Kind: 10, Exprs: one}, {Kind: 1 << 40, Targets: []string{"x"}}}},
		{"} else {\n}\n}\n} else {\n}\n", []api.Stmt{{Kind: api.SElse}, end, end, {Kind: api.SElse}, end}},
		{"}\n}\nif  {\nwhile  {\n  if  {\n    ();\n  } else {\n  }\n", []api.Stmt{end, end, branch, {Kind: api.SWhile}, {}, branch, {Kind: api.SCall}, {Kind: api.SElse}, end}},
		{"  if  {\n    if  {\n      return;\n", []api.Stmt{branch, branch, ret()}},
	} {
		s := withBody(c.body...)
		wantErr(t, s, api.ErrArg)
		if got := lengthOf(s); got != head+len(c.want) {
			t.Errorf("%d bytes, want %d of %q", got-head, len(c.want), c.want)
		}
	}
}

// A body that ends more blocks than it begins has ended the function's own: its lines have nothing ahead then.
func TestLengthOfBlocksThatDoNotNest(t *testing.T) { // P6.1
	end, other, call := api.Stmt{Kind: api.SEnd}, api.Stmt{Kind: api.SElse}, api.Stmt{Kind: api.SCall}
	branch, loop := api.Stmt{Kind: api.SIf}, api.Stmt{Kind: api.SWhile}
	for _, c := range []struct {
		want string
		body []api.Stmt
	}{
		{"}\n", []api.Stmt{end}},
		{"}\n();\n", []api.Stmt{end, call}},
		{"}\n}\n}\n();\n", []api.Stmt{end, end, end, call}},
		{"  ();\n} else {\n  ();\n", []api.Stmt{call, other, call}},
		{"}\n} else {\n();\n", []api.Stmt{end, other, call}},
		{"}\nif  {\n  ();\n} else {\n  ();\n}\n();\n", []api.Stmt{end, branch, call, other, call, end, call}},
		{"}\n}\nwhile  {\n();\nwhile  {\n  ();\n}\n}\n();\n", []api.Stmt{end, end, loop, call, loop, call, end, end, call}},
		{"  if  {\n    ();\n  }\n}\n();\n", []api.Stmt{branch, call, end, end, call}},
		{"  if  {\n  } else {\n    ();\n  } else {\n    ();\n", []api.Stmt{branch, other, call, other, call}},
		{"  while  {\n    if  {\n      ();\n", []api.Stmt{loop, branch, call}},
	} {
		s := withBody(c.body...)
		wantErr(t, s, api.ErrArg)
		const head = len("func f {} () () {\n}\n")
		if got := lengthOf(s); got != head+len(c.want) {
			t.Errorf("%d bytes, want %d of %q", got-head, len(c.want), c.want)
		}
	}
}

func TestLongTextsOfBlocksThatDoNotNest(t *testing.T) { // P6.1
	end, other, branch := api.Stmt{Kind: api.SEnd}, api.Stmt{Kind: api.SElse}, api.Stmt{Kind: api.SIf}
	for _, c := range []struct {
		body []api.Stmt
		line api.Stmt
		fit  int // how many of the line there may be: its bytes that many times are at most 65516 less those of the body
	}{
		{[]api.Stmt{end}, ret(), 8189},
		{slices.Repeat([]api.Stmt{end}, 5), ret(), 8188},
		{[]api.Stmt{end, end, branch}, ret(), 8188},
		{[]api.Stmt{end}, end, 32757},
		{nil, other, 7279},
		{[]api.Stmt{end, branch}, other, 7278},
		{[]api.Stmt{branch}, ret(), 5459},
	} {
		body := append(slices.Clone(c.body), slices.Repeat([]api.Stmt{c.line}, c.fit)...)
		wantErr(t, withBody(body...), api.ErrArg)
		wantErr(t, withBody(append(body, c.line)...), api.ErrLong)
	}
}

func TestLongTexts(t *testing.T) { // P6.1
	var s api.Source
	for range 5040 {
		s.Globals = append(s.Globals, api.Decl{Name: "x"})
	}
	lines := slices.Repeat([]string{"global x {};"}, 5040)
	for size, more := range map[int]string{13: "x", 15: "xyz", 16: "wxyz"} {
		s := s
		s.Globals = append(slices.Clone(s.Globals), api.Decl{Name: more})
		wantText(t, s, append(slices.Clone(lines), "global "+more+" {};")...)
		if text, _ := print.Source(s); len(text) != 5040*13+size {
			t.Errorf("a text of %d bytes", len(text))
		}
	}
	for more, want := range map[string]api.Errno{"12": api.ErrArg, "1234": api.ErrArg, "vwxyz": api.ErrLong, "12345": api.ErrLong, strings.Repeat("x", 33): api.ErrLong} {
		s := s
		s.Globals = append(slices.Clone(s.Globals), api.Decl{Name: more})
		wantErr(t, s, want)
	}
	s.Globals = append(s.Globals, api.Decl{Name: "wxyz"})
	s.Funcs = []api.FuncDecl{{}}
	wantErr(t, s, api.ErrLong)
}

// What is too long is so wherever it stands, and however long it would be.
func TestTextsThatAreFarTooLong(t *testing.T) { // P6.1, P1
	const many = 1 << 17
	name := strings.Repeat("n", many)
	names := slices.Repeat([]string{name}, many)
	decls := slices.Repeat([]api.Decl{{Name: name, Label: 1<<64 - 1}}, many)
	sum := append(terms(num(1)), slices.Repeat(terms(num(1), binary(1)), 1<<16)...)
	exprs := slices.Repeat([][]api.Term{sum}, many)
	stmts := slices.Repeat([]api.Stmt{{Kind: api.SCall, Name: name, Targets: names, Exprs: exprs}}, many)
	for _, s := range []api.Source{
		{Principals: names},
		{Globals: decls},
		{Channels: decls},
		{Arrays: slices.Repeat([]api.ArrayDecl{{}}, many)},
		{Funcs: slices.Repeat([]api.FuncDecl{{}}, many)},
		{Funcs: slices.Repeat([]api.FuncDecl{{Name: name, Params: decls, Vars: decls, Body: stmts}}, many)},
		{Funcs: []api.FuncDecl{{Results: slices.Repeat([]api.Label{0}, many)}}},
		withBody(stmts...),
		withBody(slices.Repeat([]api.Stmt{{Kind: api.SIf}}, many)...),
		withBody(slices.Repeat([]api.Stmt{{Kind: api.SEnd}}, many)...),
		withBody(ret(exprs...)),
		withBody(ret(sum)),
		withBody(api.Stmt{Kind: api.SStore, Exprs: exprs}),
		withBody(api.Stmt{Kind: api.SAssign, Targets: names}),
		withBody(ret(make([][]api.Term, many)...)),
	} {
		if text, err := print.Source(s); text != "" || err != api.ErrLong {
			t.Errorf("a text that is far too long: %d bytes, %d", len(text), err)
		}
	}
	if text, err := print.Source(withBody(slices.Repeat([]api.Stmt{{Kind: 77, Targets: names, Exprs: exprs}}, many)...)); text != "" || err != api.ErrArg {
		t.Errorf("many statements without a line: %d bytes, %d", len(text), err)
	}
}
