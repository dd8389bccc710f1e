package names

import (
	"slices"

	"louver/api"
)

// place is the number of the first one of a kind that has the name; -1, if none has it.
func place(s api.Source, f, kind int, name string) int {
	switch kind {
	case Local:
		return local(s, f, name)
	case Global:
		return firstOf(s.Globals, declName, name)
	case Array:
		return firstOf(s.Arrays, func(d api.ArrayDecl) string { return d.Name }, name)
	case Channel:
		return firstOf(s.Channels, declName, name)
	}
	return firstOf(s.Funcs, func(d api.FuncDecl) string { return d.Name }, name)
}

func local(s api.Source, f int, name string) int {
	if f < 0 || f >= len(s.Funcs) {
		return -1
	}
	params, vars := s.Funcs[f].Params, s.Funcs[f].Vars
	if k := firstOf(params, declName, name); k >= 0 {
		return k
	}
	if k := firstOf(vars, declName, name); k >= 0 {
		return len(params) + k
	}
	return -1
}

// firstOf looks for a declaration among those of its kind; -1, if there is none.
func firstOf[D any](list []D, nameOf func(D) string, name string) int {
	return slices.IndexFunc(list, func(d D) bool { return nameOf(d) == name })
}

func declName(d api.Decl) string { return d.Name }
