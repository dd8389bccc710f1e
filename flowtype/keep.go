package flowtype

import (
	"louver/api"
	"louver/bits"
	"louver/names"
)

// keeps asks whether a statement at a level keeps the labels. It is asked only where layer 7 has no fault: so each name is found as what it must be, and nothing is there in other numbers than it must.
func keeps(s api.Source, f int, x api.Stmt, level api.Label) bool {
	kept := true
	// The level goes wherever a value goes, since that tells that the statement was reached.
	flow := func(from, to api.Label) {
		kept = kept && bits.Within(bits.Join(from, level), to)
	}
	to := func(name string) api.Label {
		r, _ := names.Find(s, f, name)
		return label(s, f, r)
	}
	switch x.Kind {
	case api.SAssign:
		flow(exprs(s, f, x.Exprs...), to(x.Targets[0]))
	case api.SStore, api.SSend:
		flow(exprs(s, f, x.Exprs...), to(x.Name))
	case api.SCall:
		r, _ := names.Find(s, f, x.Name)
		called := s.Funcs[r.Index]
		for k, e := range x.Exprs {
			flow(exprs(s, f, e), called.Params[k].Label)
		}
		flow(0, called.Level)
		for k, name := range x.Targets {
			flow(called.Results[k], to(name))
		}
	case api.SReturn:
		for k, e := range x.Exprs {
			flow(exprs(s, f, e), s.Funcs[f].Results[k])
		}
	}
	return kept
}
