package syntax

import (
	"slices"

	"louver/api"
)

// Ends: P5.3.
func Ends(body []api.Stmt) ([]int, []int, bool) {
	ends := slices.Repeat([]int{-1}, len(body))
	elses := slices.Clone(ends)
	var open []int // the SIf and SWhile whose SEnd is still to come
	for i, s := range body {
		last := len(open) - 1
		switch s.Kind {
		case api.SIf, api.SWhile:
			open = append(open, i)
		case api.SElse:
			if last < 0 || body[open[last]].Kind != api.SIf || elses[open[last]] >= 0 {
				return nil, nil, false
			}
			elses[open[last]] = i
		case api.SEnd:
			if last < 0 {
				return nil, nil, false
			}
			begun := open[last]
			ends[begun] = i
			if other := elses[begun]; other >= 0 {
				ends[other] = i
			}
			open = open[:last]
		}
	}
	if len(open) > 0 {
		return nil, nil, false
	}
	return ends, elses, true
}
