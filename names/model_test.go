package names_test

import (
	"slices"

	"louver/api"
	"louver/names"
	"louver/syntax"
)

// model lists all faults that it sees, in the chapter's order, without ending at one.
type model struct {
	s       api.Source
	faults  []api.Fault
	f, at   int
	outside []entry
}

// entry is a name and what it stands for.
type entry struct {
	name string
	ref  names.Ref
}

func (m *model) want(so bool, err api.Errno) {
	if !so {
		m.faults = append(m.faults, fault(err, m.f, m.at))
	}
}

func has(l []entry, name string) bool {
	return slices.ContainsFunc(l, func(e entry) bool { return e.name == name })
}

func (m *model) label(l api.Label) {
	for bit := len(m.s.Principals); bit < 64; bit++ {
		m.want(l&(1<<bit) == 0, api.ErrPrincipal)
	}
}

// modelCheck is the first fault of a source by the chapter's words.
func modelCheck(s api.Source) api.Fault {
	m := &model{s: s, f: -1}
	m.declarations()
	// What stands behind leans on the declarations' limits.
	for f := range s.Funcs {
		if len(m.faults) > 0 {
			break
		}
		m.f = f
		m.head(s.Funcs[f])
		m.body(s.Funcs[f])
	}
	if len(m.faults) == 0 {
		return api.Fault{}
	}
	return m.faults[0]
}

func (m *model) declarations() {
	for k, name := range m.s.Principals {
		m.want(k < 64, api.ErrMany)
		m.want(modelName(name), api.ErrArg)
		m.want(!slices.Contains(m.s.Principals[:k], name), api.ErrTwice)
		m.at++
	}
	for k, d := range m.s.Globals {
		m.declared(d.Name, names.Ref{Kind: names.Global, Index: k}, 32, 1, d.Label)
	}
	for k, d := range m.s.Arrays {
		m.declared(d.Name, names.Ref{Kind: names.Array, Index: k}, 16, d.Len, d.Label)
	}
	for k, d := range m.s.Channels {
		m.declared(d.Name, names.Ref{Kind: names.Channel, Index: k}, 16, 1, d.Label)
	}
	for k, d := range m.s.Funcs {
		m.declared(d.Name, names.Ref{Kind: names.Func, Index: k}, 32, 1, 0)
	}
}

func (m *model) declared(name string, ref names.Ref, most, length int, l api.Label) {
	m.want(ref.Index < most, api.ErrMany)
	m.want(modelName(name), api.ErrArg)
	m.want(!has(m.outside, name), api.ErrTwice)
	m.want(length >= 1 && length <= 256, api.ErrArg)
	m.label(l)
	m.outside = append(m.outside, entry{name, ref})
	m.at++
}

func (m *model) head(d api.FuncDecl) {
	m.at = -1
	m.want(len(d.Params) <= 8 && len(d.Results) <= 4 && len(d.Vars) <= 32 && len(d.Body) <= 256, api.ErrMany)
	m.label(d.Level)
	known := slices.Clone(m.outside)
	for _, v := range slices.Concat(d.Params, d.Vars) {
		m.want(modelName(v.Name), api.ErrArg)
		m.want(!has(known, v.Name), api.ErrTwice)
		m.label(v.Label)
		known = append(known, entry{name: v.Name})
	}
	for _, l := range d.Results {
		m.label(l)
	}
	_, _, nest := syntax.Ends(d.Body)
	m.want(nest, api.ErrSyntax)
	open, returns := 0, 0
	for _, x := range d.Body {
		if x.Kind == api.SIf || x.Kind == api.SWhile {
			open++
			m.want(open <= 12, api.ErrSyntax)
		}
		if x.Kind == api.SEnd {
			open--
		}
		if x.Kind == api.SReturn {
			returns++
		}
	}
	m.want(returns == 1 && d.Body[len(d.Body)-1].Kind == api.SReturn, api.ErrSyntax)
}

func (m *model) body(d api.FuncDecl) {
	for i, x := range d.Body {
		m.at = i
		m.want(modelFits(x), api.ErrSyntax)
		if m.stmt(x); x.Kind == api.SReturn {
			m.want(len(x.Exprs) == len(d.Results), api.ErrCount)
		}
	}
}

func (m *model) stmt(x api.Stmt) {
	m.want(len(x.Exprs) <= 8, api.ErrMany)
	for _, e := range x.Exprs {
		m.want(len(e) <= 48, api.ErrMany)
	}
	for _, name := range x.Targets {
		m.use(name, names.Local, names.Global)
	}
	if kind := map[int]int{api.SStore: names.Array, api.SSend: names.Channel, api.SCall: names.Func}[x.Kind]; kind > 0 {
		m.use(x.Name, kind)
	}
	for _, e := range x.Exprs {
		for _, t := range e {
			switch t.Kind {
			case api.TName:
				m.use(t.Name, names.Local, names.Global)
			case api.TIndex:
				m.use(t.Name, names.Array)
			}
		}
	}
	if ref, ok := modelFind(m.s, m.f, x.Name); x.Kind == api.SCall && ok && ref.Kind == names.Func {
		called := m.s.Funcs[ref.Index]
		m.want(len(x.Exprs) == len(called.Params), api.ErrCount)
		m.want(x.Targets == nil || len(x.Targets) == 0 || len(x.Targets) == len(called.Results), api.ErrCount)
	}
}

func (m *model) use(name string, kinds ...int) {
	ref, ok := modelFind(m.s, m.f, name)
	m.want(ok, api.ErrUnknown)
	m.want(slices.Contains(kinds, ref.Kind), api.ErrKind)
}

// modelFind writes what each name stands for over what stands behind.
func modelFind(s api.Source, f int, name string) (names.Ref, bool) {
	known := map[string]names.Ref{}
	for k := len(s.Funcs) - 1; k >= 0; k-- {
		known[s.Funcs[k].Name] = names.Ref{Kind: names.Func, Index: k}
	}
	for k := len(s.Channels) - 1; k >= 0; k-- {
		known[s.Channels[k].Name] = names.Ref{Kind: names.Channel, Index: k}
	}
	for k := len(s.Arrays) - 1; k >= 0; k-- {
		known[s.Arrays[k].Name] = names.Ref{Kind: names.Array, Index: k}
	}
	for k := len(s.Globals) - 1; k >= 0; k-- {
		known[s.Globals[k].Name] = names.Ref{Kind: names.Global, Index: k}
	}
	if f >= 0 && f < len(s.Funcs) {
		locals := slices.Concat(s.Funcs[f].Params, s.Funcs[f].Vars)
		for k := len(locals) - 1; k >= 0; k-- {
			known[locals[k].Name] = names.Ref{Kind: names.Local, Index: k}
		}
	}
	ref, ok := known[name]
	return ref, ok
}
