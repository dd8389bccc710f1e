package graph_test

import (
	"iter"
	"math/rand"
	"slices"
	"testing"

	"louver/api"
	"louver/graph"
)

// gone is what a sequence tells, to its end.
func gone(s iter.Seq2[int, int]) []edge {
	var l []edge
	for a, b := range s {
		l = append(l, edge{a, b})
	}
	return l
}

func wantGone(t *testing.T, f api.Function, got, want []edge) {
	t.Helper()
	if !slices.Equal(got, want) && !t.Failed() {
		t.Errorf("Edges: %v, want %v, of %s", got, want, told(f))
	}
}

func wantEdges(t *testing.T, f api.Function, want []edge) {
	t.Helper()
	wantGone(t, f, gone(graph.Edges(f)), want)
}

func TestEdges(t *testing.T) { // P14.4
	wantEdges(t, example(), []edge{{0, 1}, {1, 2}, {1, 4}, {2, 3}, {3, 1}, {4, 5}})
	wantEdges(t, funcOf(), nil)
	wantEdges(t, funcOf(jump(0)), []edge{{0, 0}})
	wantEdges(t, funcOf(zero(1), jump(9)), []edge{{0, 1}})
	wantEdges(t, funcOf(nop()), nil)
	wantEdges(t, funcOf(back(), back()), []edge{{0, 2}, {1, 2}})
	wantEdges(t, funcOf(nop(), zero(0), zero(2), zero(1)), []edge{{0, 1}, {1, 0}, {1, 2}, {2, 2}, {2, 3}, {3, 1}})
}

// TestEdgesLeftEarly leaves behind each edge; nothing is told any more then, even where the yield is called by hand.
func TestEdgesLeftEarly(t *testing.T) { // P14.4
	r := rand.New(rand.NewSource(1405))
	for range 500 {
		f := made(r, 10)
		all := modelEdges(f.Code)
		s := graph.Edges(f)
		for many := 1; many <= len(all); many++ {
			var l []edge
			s(func(a, b int) bool {
				l = append(l, edge{a, b})
				return len(l) != many
			})
			wantGone(t, f, l, all[:many])
		}
		wantGone(t, f, gone(s), all)
		wantGone(t, f, gone(s), all)
	}
}

// TestEdgesWithinEdges goes over one sequence while it is gone over.
func TestEdgesWithinEdges(t *testing.T) { // P14.4
	f := example()
	all := modelEdges(f.Code)
	s := graph.Edges(f)
	var outer []edge
	for a, b := range s {
		outer = append(outer, edge{a, b})
		wantGone(t, f, gone(s), all)
		for range s {
			break
		}
	}
	wantGone(t, f, outer, all)
}

// TestEdgesAsTheyWere changes a code behind the call: ahead of the first going-over, between two and within one.
func TestEdgesAsTheyWere(t *testing.T) { // P14.4, P14.6
	f := example()
	all := modelEdges(f.Code)
	s := graph.Edges(f)
	clear(f.Code)
	wantGone(t, f, gone(s), all)
	copy(f.Code, slices.Repeat([]api.Instr{jump(0)}, 5))
	wantGone(t, f, gone(s), all)
	later := graph.Edges(f)
	f.Code[0] = back()
	f.Code = append(f.Code[:1], back())
	wantGone(t, f, gone(later), []edge{{0, 0}, {1, 0}, {2, 0}, {3, 0}, {4, 0}})
	wantGone(t, f, gone(s), all)
	f = example()
	var l []edge
	for a, b := range graph.Edges(f) {
		l = append(l, edge{a, b})
		clear(f.Code)
	}
	wantGone(t, f, l, all)
}

func TestEdgesOfEdges(t *testing.T) { // P14.4, P14.5
	r := rand.New(rand.NewSource(1406))
	for range 2000 {
		f := made(r, 15)
		var want []edge
		for a := range len(f.Code) + 1 {
			for _, b := range graph.Next(f, a) {
				want = append(want, edge{a, b})
			}
		}
		wantEdges(t, f, want)
	}
}
