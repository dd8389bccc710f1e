package flowtype

import (
	"slices"

	"louver/api"
	"louver/bits"
	"louver/names"
)

// exprs is the label of several expressions together. One with a name that is not found has none, and so adds nothing.
func exprs(s api.Source, f int, l ...[]api.Term) api.Label {
	var all api.Label
	for _, e := range l {
		one, _ := Expr(s, f, e)
		all = bits.Join(all, one)
	}
	return all
}

// term is the label that a term brings in; false, if its name is not found as what it must be.
func term(s api.Source, f int, t api.Term) (api.Label, bool) {
	switch t.Kind {
	case api.TName:
		return named(s, f, t.Name, names.Local, names.Global)
	case api.TIndex:
		return named(s, f, t.Name, names.Array)
	}
	return 0, true
}

// named is the label of what a name stands for, if that is of one of the kinds.
func named(s api.Source, f int, name string, kinds ...int) (api.Label, bool) {
	r, ok := names.Find(s, f, name)
	if !ok || !slices.Contains(kinds, r.Kind) {
		return 0, false
	}
	return label(s, f, r), true
}

// label is not asked of functions: these have several.
func label(s api.Source, f int, r names.Ref) api.Label {
	switch r.Kind {
	case names.Local:
		return local(s.Funcs[f], r.Index)
	case names.Global:
		return s.Globals[r.Index].Label
	case names.Array:
		return s.Arrays[r.Index].Label
	case names.Channel:
		return s.Channels[r.Index].Label
	}
	return 0
}

func local(d api.FuncDecl, k int) api.Label {
	if k < len(d.Params) {
		return d.Params[k].Label
	}
	return d.Vars[k-len(d.Params)].Label
}
