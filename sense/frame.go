package sense

import (
	"slices"

	"louver/api"
	"louver/names"
)

// frame is a function that was entered and has not returned.
type frame struct {
	*run
	function
	locals []int64
}

// results executes the body up to its return: there is one alone, and it is the last statement.
func (x *frame) results() []int64 {
	at := 0
	for x.body[at].Kind != api.SReturn {
		at = x.execute(at)
	}
	x.use()
	return x.values(x.body[at].Exprs)
}

// execute answers which statement is next.
func (x *frame) execute(at int) int {
	s := x.body[at]
	if s.Kind == api.SElse || s.Kind == api.SEnd {
		return x.turns[at]
	}
	x.use()
	l := x.values(s.Exprs)
	switch s.Kind {
	case api.SAssign:
		x.give(s.Targets[0], l[0])
	case api.SStore:
		if place := x.element(s.Name, l[0]); place != nil {
			*place = l[1]
		}
	case api.SSend:
		log := &x.logs[x.scope[s.Name].Index]
		*log = append(*log, l[0])
	case api.SCall:
		x.call(s, l)
	case api.SIf, api.SWhile:
		if l[0] == 0 {
			return x.turns[at]
		}
	}
	return at + 1
}

func (x *frame) call(s api.Stmt, args []int64) {
	if x.live == api.MaxDepth {
		panic(end{api.ErrDepth})
	}
	results := x.enter(x.scope[s.Name].Index, args)
	// From the last one on: of a name that is there several times, its first place tells what it has in the end.
	for k, name := range slices.Backward(s.Targets) {
		x.give(name, results[k])
	}
}

func (x *frame) give(name string, value int64) {
	x.use()
	*x.cell(name) = value
}

// cell is where the value of a local or a global stands.
func (x *frame) cell(name string) *int64 {
	r := x.scope[name]
	if r.Kind == names.Local {
		return &x.locals[r.Index]
	}
	return &x.memory.Globals[r.Index]
}

// element is where an array's element stands; nil, if there is none.
func (x *frame) element(name string, index int64) *int64 {
	row := x.memory.Arrays[x.scope[name].Index]
	if uint64(index) < uint64(len(row)) {
		return &row[index]
	}
	return nil
}
