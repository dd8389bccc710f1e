package print

import (
	"slices"

	"louver/api"
)

// sameSource, like those below, takes no list and an empty one for the same.
func sameSource(a, b api.Source) bool {
	return slices.Equal(a.Principals, b.Principals) &&
		slices.Equal(a.Globals, b.Globals) &&
		slices.Equal(a.Arrays, b.Arrays) &&
		slices.Equal(a.Channels, b.Channels) &&
		slices.EqualFunc(a.Funcs, b.Funcs, sameFunc)
}

func sameFunc(a, b api.FuncDecl) bool {
	return a.Name == b.Name && a.Level == b.Level &&
		slices.Equal(a.Params, b.Params) &&
		slices.Equal(a.Results, b.Results) &&
		slices.Equal(a.Vars, b.Vars) &&
		slices.EqualFunc(a.Body, b.Body, sameStmt)
}

func sameStmt(a, b api.Stmt) bool {
	return a.Kind == b.Kind && a.Name == b.Name &&
		slices.Equal(a.Targets, b.Targets) &&
		slices.EqualFunc(a.Exprs, b.Exprs, slices.Equal[[]api.Term])
}
