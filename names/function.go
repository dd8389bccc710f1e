package names

import (
	"slices"

	"louver/api"
	"louver/syntax"
)

// head is where the faults of a function are that are not a statement's.
const head = -1

// function answers the first error of a function among declarations that are in order, and where it is.
func function(s api.Source, f int) (int, api.Errno) {
	d := s.Funcs[f]
	err := first(sizes(d), labels(s, d.Level), locals(s, f), labels(s, d.Results...), blocks(d.Body))
	if err != api.OK {
		return head, err
	}
	for i, x := range d.Body {
		if err := first(grammar(x), bulk(x), uses(s, f, x), counts(s, f, x)); err != api.OK {
			return i, err
		}
	}
	return 0, api.OK
}

func sizes(d api.FuncDecl) check {
	return func() api.Errno {
		few := len(d.Params) <= api.MaxParams && len(d.Results) <= api.MaxResults &&
			len(d.Vars) <= api.MaxLocals && len(d.Body) <= api.MaxStmts
		return unless(few, api.ErrMany)
	}
}

func locals(s api.Source, f int) check {
	return func() api.Errno {
		for k, d := range slices.Concat(s.Funcs[f].Params, s.Funcs[f].Vars) {
			isTaken := func() bool {
				_, outside := Find(s, nobody, d.Name)
				return outside || local(s, f, d.Name) != k
			}
			if err := first(newName(d.Name, isTaken), labels(s, d.Label)); err != api.OK {
				return err
			}
		}
		return api.OK
	}
}

func blocks(body []api.Stmt) check {
	return func() api.Errno {
		_, _, nest := syntax.Ends(body)
		return unless(nest && deepest(body) <= api.MaxNest && endsOnce(body), api.ErrSyntax)
	}
}

func deepest(body []api.Stmt) int {
	deep, most := 0, 0
	for _, x := range body {
		switch x.Kind {
		case api.SIf, api.SWhile:
			deep++
			most = max(most, deep)
		case api.SEnd:
			deep--
		}
	}
	return most
}

// endsOnce asks for a return at the end and for none ahead of it.
func endsOnce(body []api.Stmt) bool {
	k := slices.IndexFunc(body, func(x api.Stmt) bool { return x.Kind == api.SReturn })
	return k >= 0 && k == len(body)-1
}
