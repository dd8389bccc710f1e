package names

import "louver/api"

// several is as many as there are.
const several = -1

// form is what a statement of a kind has beside it.
type form struct {
	named          bool
	targets, exprs int
}

func formOf(kind int) (form, bool) {
	switch kind {
	case api.SAssign:
		return form{targets: 1, exprs: 1}, true
	case api.SStore:
		return form{named: true, exprs: 2}, true
	case api.SSend:
		return form{named: true, exprs: 1}, true
	case api.SCall:
		return form{named: true, targets: several, exprs: several}, true
	case api.SIf, api.SWhile:
		return form{exprs: 1}, true
	case api.SElse, api.SEnd:
		return form{}, true
	case api.SReturn:
		return form{exprs: several}, true
	}
	return form{}, false
}

func (wanted form) matches(x api.Stmt) bool {
	named := x.Name == ""
	if wanted.named {
		named = Name(x.Name)
	}
	return named && isCount(len(x.Targets), wanted.targets) && isCount(len(x.Exprs), wanted.exprs)
}

func isCount(n, wanted int) bool { return wanted == several || n == wanted }

func whole(l []api.Term) bool {
	values := 0
	for _, t := range l {
		n := taken(t)
		if !good(t) || values < n {
			return false
		}
		values += 1 - n
	}
	return values == 1
}

// taken is how many values a term makes one of.
func taken(t api.Term) int {
	switch t.Kind {
	case api.TBinary:
		return 2
	case api.TIndex, api.TUnary:
		return 1
	}
	return 0
}

// good asks whether a term has what its kind has, and no more.
func good(t api.Term) bool {
	switch t.Kind {
	case api.TNumber:
		return t.Value >= 0 && t.Name == ""
	case api.TName, api.TIndex:
		return t.Value == 0 && Name(t.Name)
	case api.TUnary:
		return api.OpNeg <= t.Value && t.Value <= api.OpInv && t.Name == ""
	case api.TBinary:
		return api.OpAdd <= t.Value && t.Value <= api.OpLe && t.Name == ""
	}
	return false
}
