package flowtype_test

import (
	"slices"

	"louver/api"
)

// model looks at one principal alone, and tells the chapter once more: what it may not see is high, and a block is walked within the block around it. It is asked of sources in which layer 7 finds no fault, and of which each name stands for one thing.
type model struct {
	s      api.Source
	f      api.FuncDecl
	bit    api.Label
	highs  []bool // by statement: whether the level there is high
	leaks  []int  // the statements that do not keep the principal
	labels map[string]api.Label
}

func modelOf(s api.Source, f, principal int) *model {
	m := &model{s: s, f: s.Funcs[f], bit: 1 << principal, labels: map[string]api.Label{}}
	for _, d := range slices.Concat(s.Globals, s.Channels, m.f.Params, m.f.Vars) {
		m.labels[d.Name] = d.Label
	}
	for _, d := range s.Arrays {
		m.labels[d.Name] = d.Label
	}
	m.walk(m.f.Body, m.isHigh(m.f.Level))
	return m
}

func (m *model) isHigh(l api.Label) bool { return l&m.bit != 0 }

func (m *model) high(e []api.Term) bool {
	return slices.ContainsFunc(e, func(t api.Term) bool { return t.Name != "" && m.isHigh(m.labels[t.Name]) })
}

// walk goes through a block and answers what is behind the edge that ends it.
func (m *model) walk(body []api.Stmt, high bool) []api.Stmt {
	for len(body) > 0 {
		x := body[0]
		if x.Kind == api.SElse || x.Kind == api.SEnd {
			return body
		}
		m.keep(x, high)
		m.highs = append(m.highs, high)
		body = body[1:]
		for branch := x.Kind == api.SIf || x.Kind == api.SWhile; branch; {
			body = m.walk(body, high || m.high(x.Exprs[0]))
			m.highs = append(m.highs, high) // the edge's own
			branch = body[0].Kind == api.SElse
			body = body[1:]
		}
	}
	return nil
}

// keep notes a statement as it stands in the row of levels so far.
func (m *model) keep(x api.Stmt, high bool) {
	var from, to []bool
	flow := func(isHigh bool, l api.Label) { from, to = append(from, isHigh), append(to, m.isHigh(l)) }
	switch x.Kind {
	case api.SAssign:
		flow(m.high(x.Exprs[0]), m.labels[x.Targets[0]])
	case api.SStore, api.SSend:
		for _, e := range x.Exprs {
			flow(m.high(e), m.labels[x.Name])
		}
	case api.SCall:
		m.call(x, flow)
	case api.SReturn:
		for k, e := range x.Exprs {
			flow(m.high(e), m.f.Results[k])
		}
	}
	for k := range from {
		if (from[k] || high) && !to[k] {
			m.leaks = append(m.leaks, len(m.highs))
			return
		}
	}
}

func (m *model) call(x api.Stmt, flow func(bool, api.Label)) {
	g := slices.IndexFunc(m.s.Funcs, func(d api.FuncDecl) bool { return d.Name == x.Name })
	flow(false, m.s.Funcs[g].Level)
	for k, e := range x.Exprs {
		flow(m.high(e), m.s.Funcs[g].Params[k].Label)
	}
	for k, name := range x.Targets {
		flow(m.isHigh(m.s.Funcs[g].Results[k]), m.labels[name])
	}
}

// modelLevels puts the levels together, principal by principal.
func modelLevels(s api.Source, f int) []api.Label {
	levels := make([]api.Label, len(s.Funcs[f].Body))
	for k := range s.Principals {
		for i, high := range modelOf(s, f, k).highs {
			if high {
				levels[i] |= 1 << k
			}
		}
	}
	return levels
}

// modelCheck is the first leak of all principals.
func modelCheck(s api.Source) api.Fault {
	for f := range s.Funcs {
		var leaks []int
		for k := range s.Principals {
			leaks = append(leaks, modelOf(s, f, k).leaks...)
		}
		if len(leaks) > 0 {
			return leak(f, slices.Min(leaks))
		}
	}
	return api.Fault{}
}
