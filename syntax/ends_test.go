package syntax_test

import (
	"slices"
	"testing"

	"louver/api"
	"louver/syntax"
)

func bodyOf(kinds ...int) []api.Stmt {
	var body []api.Stmt
	for _, k := range kinds {
		body = append(body, api.Stmt{Kind: k})
	}
	return body
}

func wantEnds(t *testing.T, kinds, ends, elses []int, ok bool) {
	t.Helper()
	gotEnds, gotElses, got := syntax.Ends(bodyOf(kinds...))
	if !slices.Equal(gotEnds, ends) || !slices.Equal(gotElses, elses) || got != ok {
		t.Errorf("Ends of %v = %v, %v, %t, want %v, %v, %t", kinds, gotEnds, gotElses, got, ends, elses, ok)
	}
}

func TestEndsOfTheChapter(t *testing.T) { // P5.3
	wantEnds(t, []int{api.SIf, api.SElse, api.SEnd}, []int{2, 2, -1}, []int{1, -1, -1}, true)
	for _, kinds := range [][]int{{api.SWhile}, {api.SEnd}, {api.SElse, api.SEnd}} {
		wantEnds(t, kinds, nil, nil, false)
	}
}

func TestEnds(t *testing.T) { // P5.3
	const a, i, e, w, z = api.SAssign, api.SIf, api.SElse, api.SWhile, api.SEnd
	wantEnds(t, nil, nil, nil, true)
	wantEnds(t, []int{a, api.SReturn, a, 0, -1, 99}, []int{-1, -1, -1, -1, -1, -1}, []int{-1, -1, -1, -1, -1, -1}, true)
	wantEnds(t, []int{i, z}, []int{1, -1}, []int{-1, -1}, true)
	wantEnds(t, []int{w, z, w, z}, []int{1, -1, 3, -1}, []int{-1, -1, -1, -1}, true)
	wantEnds(t, []int{w, i, a, e, i, z, z, z}, []int{7, 6, -1, 6, 5, -1, -1, -1}, []int{-1, 3, -1, -1, -1, -1, -1, -1}, true)
	wantEnds(t, []int{i, i, e, z, e, z}, []int{5, 3, 3, -1, 5, -1}, []int{4, 2, -1, -1, -1, -1}, true)
	for _, kinds := range [][]int{{i, e, e, z}, {w, e, z}, {i, w, e, z, z}, {i, e}, {i}, {i, z, z}, {i, z, e, z}, {i, w, z}, {a, z}, {e}} {
		wantEnds(t, kinds, nil, nil, false)
	}
}

// modelEnds looks for the pairs anew from every statement.
func modelEnds(kinds []int) ([]int, []int, bool) {
	ends, elses := make([]int, len(kinds)), make([]int, len(kinds))
	used := make([]bool, len(kinds))
	for n := range kinds {
		ends[n], elses[n] = -1, -1
	}
	for n, k := range kinds {
		if k != api.SIf && k != api.SWhile {
			continue
		}
		deep := 0
		for m := n + 1; m < len(kinds) && ends[n] < 0; m++ {
			switch {
			case kinds[m] == api.SIf || kinds[m] == api.SWhile:
				deep++
			case kinds[m] == api.SEnd && deep > 0:
				deep--
			case kinds[m] == api.SEnd:
				ends[n], used[m] = m, true
			case kinds[m] == api.SElse && deep == 0 && k == api.SIf && elses[n] < 0:
				elses[n], used[m] = m, true
			}
		}
		if ends[n] < 0 {
			return nil, nil, false
		}
		if elses[n] >= 0 {
			ends[elses[n]] = ends[n]
		}
	}
	for n, k := range kinds {
		if !used[n] && (k == api.SEnd || k == api.SElse) {
			return nil, nil, false
		}
	}
	return ends, elses, true
}

func TestEndsOfAllShortRows(t *testing.T) { // P5.3, P1
	sorts := []int{api.SSend, api.SIf, api.SElse, api.SWhile, api.SEnd}
	good := 0
	for size := range 8 {
		count := 1
		for range size {
			count *= len(sorts)
		}
		for n := range count {
			var kinds []int
			for range size {
				kinds = append(kinds, sorts[n%len(sorts)])
				n /= len(sorts)
			}
			ends, elses, ok := modelEnds(kinds)
			wantEnds(t, kinds, ends, elses, ok)
			if ok {
				good++
			}
		}
		if t.Failed() {
			return
		}
	}
	if good < 500 {
		t.Errorf("only %d rows that nest", good)
	}
}

func TestEndsOfDeepRows(t *testing.T) { // P5.3
	const deep = 50000
	var kinds, ends, elses []int
	for n := range 2 * deep {
		elses = append(elses, -1)
		if n < deep {
			kinds, ends = append(kinds, api.SWhile), append(ends, 2*deep-1-n)
		} else {
			kinds, ends = append(kinds, api.SEnd), append(ends, -1)
		}
	}
	wantEnds(t, kinds, ends, elses, true)
	if _, _, ok := syntax.Ends(bodyOf(kinds[1:]...)); ok {
		t.Errorf("an SEnd too many nests")
	}
}
