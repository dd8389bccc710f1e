package names

import "louver/api"

func grammar(x api.Stmt) check {
	return func() api.Errno { return unless(Fits(x), api.ErrSyntax) }
}

func bulk(x api.Stmt) check {
	short := func(l []api.Term) bool { return len(l) <= api.MaxTerms }
	return func() api.Errno {
		return unless(len(x.Exprs) <= api.MaxParams && all(x.Exprs, short), api.ErrMany)
	}
}

// uses checks what a statement's names stand for, in the order in which the chapter takes them.
func uses(s api.Source, f int, x api.Stmt) check {
	return func() api.Errno {
		for _, u := range usesOf(x) {
			r, ok := Find(s, f, u.name)
			if !ok {
				return api.ErrUnknown
			}
			if !u.allows(r.Kind) {
				return api.ErrKind
			}
		}
		return api.OK
	}
}

// use is a name in a statement, and the kind of what it must stand for.
type use struct {
	name string
	kind int
}

// allows takes a local for a global: wherever the one may stand, the other may.
func (u use) allows(kind int) bool {
	return kind == u.kind || u.kind == Global && kind == Local
}

func usesOf(x api.Stmt) []use {
	var row []use
	for _, name := range x.Targets {
		row = append(row, use{name, Global})
	}
	switch x.Kind {
	case api.SStore:
		row = append(row, use{x.Name, Array})
	case api.SSend:
		row = append(row, use{x.Name, Channel})
	case api.SCall:
		row = append(row, use{x.Name, Func})
	}
	for _, l := range x.Exprs {
		row = append(row, usesIn(l)...)
	}
	return row
}

func usesIn(l []api.Term) []use {
	var row []use
	for _, t := range l {
		switch t.Kind {
		case api.TName:
			row = append(row, use{t.Name, Global})
		case api.TIndex:
			row = append(row, use{t.Name, Array})
		}
	}
	return row
}

// counts leans on uses: a call's name is a function's here.
func counts(s api.Source, f int, x api.Stmt) check {
	return func() api.Errno {
		switch x.Kind {
		case api.SCall:
			r, _ := Find(s, f, x.Name)
			return unless(suits(x, s.Funcs[r.Index]), api.ErrCount)
		case api.SReturn:
			return unless(len(x.Exprs) == len(s.Funcs[f].Results), api.ErrCount)
		}
		return api.OK
	}
}

func suits(call api.Stmt, d api.FuncDecl) bool {
	dropped := len(call.Targets) == 0
	return len(call.Exprs) == len(d.Params) && (dropped || len(call.Targets) == len(d.Results))
}
