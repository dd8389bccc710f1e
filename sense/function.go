package sense

import (
	"slices"

	"louver/api"
	"louver/names"
	"louver/syntax"
)

// function is what a run asks for of a function at each step, and what is therefore worked out ahead.
type function struct {
	body  []api.Stmt
	scope map[string]names.Ref // what its names stand for
	turns []int
}

func tell(s api.Source, f int) function {
	body := s.Funcs[f].Body
	return function{body, scopeOf(s, f), turnsOf(body)}
}

func scopeOf(s api.Source, f int) map[string]names.Ref {
	scope := map[string]names.Ref{}
	note := func(name string) { scope[name], _ = names.Find(s, f, name) }
	for _, d := range slices.Concat(s.Funcs[f].Params, s.Funcs[f].Vars, s.Globals, s.Channels) {
		note(d.Name)
	}
	for _, d := range s.Arrays {
		note(d.Name)
	}
	for _, d := range s.Funcs {
		note(d.Name)
	}
	return scope
}

// turnsOf tells for the edges of blocks which statement is next: at an SIf and an SWhile, if its expression is 0.
func turnsOf(body []api.Stmt) []int {
	ends, elses, _ := syntax.Ends(body)
	turns := make([]int, len(body))
	for at, x := range body {
		behind := ends[at] + 1
		switch x.Kind {
		case api.SIf:
			turns[ends[at]] = behind
			turns[at] = behind
			if other := elses[at]; other >= 0 {
				turns[at] = other + 1
			}
		case api.SElse:
			turns[at] = behind
		case api.SWhile:
			turns[ends[at]] = at
			turns[at] = behind
		}
	}
	return turns
}
