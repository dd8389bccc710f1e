package sense

import (
	"louver/api"
	"louver/names"
	"louver/ops"
)

func (x *frame) values(exprs [][]api.Term) []int64 {
	l := make([]int64, len(exprs))
	for k, e := range exprs {
		l[k] = x.value(e)
	}
	return l
}

// value evaluates an expression that is whole and has no name that is not found.
func (x *frame) value(e []api.Term) int64 {
	row := make([]int64, 0, api.MaxTerms)
	for _, t := range e {
		x.use()
		row = x.term(row, t)
	}
	return row[0]
}

// term answers what is left of a row of values behind a term.
func (x *frame) term(row []int64, t api.Term) []int64 {
	last := len(row) - 1
	switch t.Kind {
	case api.TNumber:
		row = append(row, t.Value)
	case api.TName:
		row = append(row, *x.cell(t.Name))
	case api.TIndex:
		place := x.element(t.Name, row[last])
		row[last] = 0
		if place != nil {
			row[last] = *place
		}
	case api.TUnary:
		row[last], _ = ops.Unary(int(t.Value), row[last])
	case api.TBinary:
		row[last-1], _ = ops.Binary(int(t.Value), row[last-1], row[last])
		row = row[:last]
	}
	return row
}

// whole: P5.4.
func whole(e []api.Term) bool {
	values := 0
	for _, t := range e {
		n, ok := wants(t)
		if !ok || values < n {
			return false
		}
		values += 1 - n
	}
	return values == 1
}

// wants is how many values a term makes one of; false, if it is none of an expression's.
func wants(t api.Term) (int, bool) {
	switch t.Kind {
	case api.TNumber, api.TName:
		return 0, true
	case api.TIndex:
		return 1, true
	case api.TUnary:
		return 1, ops.Arity(int(t.Value)) == 1
	case api.TBinary:
		return 2, ops.Arity(int(t.Value)) == 2
	}
	return 0, false
}

// found asks whether each name stands for what it must.
func found(s api.Source, f int, e []api.Term) bool {
	for _, t := range e {
		r, _ := names.Find(s, f, t.Name)
		isValue := r.Kind == names.Local || r.Kind == names.Global
		if t.Kind == api.TName && !isValue || t.Kind == api.TIndex && r.Kind != names.Array {
			return false
		}
	}
	return true
}
