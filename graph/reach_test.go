package graph_test

import (
	"math/rand"
	"slices"
	"testing"

	"louver/api"
	"louver/graph"
)

func wantReach(t *testing.T, f api.Function, from int, want []bool) {
	t.Helper()
	if got := graph.Reach(f, from); !slices.Equal(got, want) && !t.Failed() {
		t.Errorf("Reach of %d: %v, want %v, in %s", from, got, want, told(f))
	}
}

// nodes is a list of so many, true of these.
func nodes(n int, which ...int) []bool {
	l := make([]bool, n)
	for _, a := range which {
		l[a] = true
	}
	return l
}

func wantExit(t *testing.T, f api.Function, at int, ok bool) {
	t.Helper()
	if gotAt, gotOK := graph.Exit(f); (gotAt != at || gotOK != ok) && !t.Failed() {
		t.Errorf("Exit: %d %v, want %d %v, of %s", gotAt, gotOK, at, ok, told(f))
	}
}

func TestReachExamples(t *testing.T) { // P14.2
	f := example()
	wantReach(t, f, 0, nodes(6, 0, 1, 2, 3, 4, 5))
	wantReach(t, f, 2, nodes(6, 1, 2, 3, 4, 5))
	wantReach(t, f, 4, nodes(6, 4, 5))
	wantReach(t, f, 5, nodes(6, 5))
	wantReach(t, f, 6, nodes(6))
	wantReach(t, f, -1, nodes(6))
	wantReach(t, funcOf(), 0, nodes(1, 0))
	wantReach(t, funcOf(), 1, nodes(1))
	wantReach(t, funcOf(nop()), 0, nodes(2, 0)) // a way off the end is none to X
}

func TestExitExamples(t *testing.T) { // P14.3
	wantExit(t, example(), 0, false)
	wantExit(t, funcOf(jump(0)), 0, true)
	wantExit(t, funcOf(), 0, false)
	wantExit(t, funcOf(with(api.InConst, 1), op(api.InPop), jump(0)), 0, true)
	wantExit(t, funcOf(with(api.InConst, 1), op(api.InPop), jump(0), back()), 0, true)
	wantExit(t, funcOf(nop()), 0, true)
	wantExit(t, funcOf(back()), 0, false)
	wantExit(t, funcOf(jump(1)), 0, true) // X is no target
}

// TestExitIsTheLeast has rings at some addresses, and ahead of the first one what leads there.
func TestExitIsTheLeast(t *testing.T) { // P14.3
	const n = 7
	for which := range 1 << n {
		f := funcOf(slices.Repeat([]api.Instr{back()}, n)...)
		first := n
		for a := n - 1; a >= 0; a-- {
			if which>>a&1 == 1 {
				f.Code[a], first = jump(int64(a)), a
			}
		}
		if first == n {
			wantExit(t, f, 0, false)
			continue
		}
		wantExit(t, f, first, true)
		if first == 0 {
			continue
		}
		// What can come to a ring has a way to X still, what can come to nothing else has none.
		for a := range first - 1 {
			f.Code[a] = zero(int64(first))
		}
		wantExit(t, f, first, true)
		f.Code[first-1] = jump(int64(first))
		wantExit(t, f, 0, true)
		f.Code[0] = zero(0)
		wantExit(t, f, 0, true)
	}
	wantExit(t, funcOf(zero(2), back(), jump(2)), 2, true)
	wantExit(t, funcOf(zero(0), back()), 0, false)
	wantExit(t, funcOf(back(), nop(), jump(1)), 1, true)
	wantExit(t, funcOf(jump(3), jump(0), back(), jump(1)), 0, true)
}

// TestReachIsTheLeast asks whether what is reached has all that the chapter asks for, and whether there is a smaller such set.
func TestReachIsTheLeast(t *testing.T) { // P14.5
	r := rand.New(rand.NewSource(1402))
	for range 3000 {
		f := made(r, 12)
		for from := range len(f.Code) + 1 {
			reached := graph.Reach(f, from)
			if len(reached) != len(f.Code)+1 || !reached[from] {
				t.Fatalf("Reach of %d: %v, of %s", from, reached, told(f))
			}
			for a := range reached {
				missing := slices.ContainsFunc(graph.Next(f, a), func(b int) bool { return !reached[b] })
				behind := slices.ContainsFunc(graph.Ahead(f, a), func(b int) bool { return reached[b] })
				if reached[a] && missing || reached[a] && a != from && !behind {
					t.Fatalf("Reach of %d: %v at %d, of %s", from, reached, a, told(f))
				}
			}
			wantReach(t, f, from, leastFrom(f, from))
		}
	}
}

// leastFrom grows from one node by Next till that brings no more.
func leastFrom(f api.Function, from int) []bool {
	has := nodes(len(f.Code)+1, from)
	for grown := true; grown; {
		grown = false
		for a := range has {
			for _, b := range graph.Next(f, a) {
				if has[a] && !has[b] {
					has[b], grown = true, true
				}
			}
		}
	}
	return has
}

func TestNextAndAhead(t *testing.T) { // P14.5
	r := rand.New(rand.NewSource(1403))
	for range 3000 {
		f := made(r, 12)
		for a := range len(f.Code) + 1 {
			for b := range len(f.Code) + 1 {
				on, behind := slices.Contains(graph.Next(f, a), b), slices.Contains(graph.Ahead(f, b), a)
				if on != behind {
					t.Fatalf("%d has %d: %v, but %v from there, in %s", a, b, on, behind, told(f))
				}
			}
		}
	}
}

func TestExitAndReach(t *testing.T) { // P14.5
	r := rand.New(rand.NewSource(1404))
	for range 3000 {
		f := made(r, 12)
		n := len(f.Code)
		at, ok := graph.Exit(f)
		for a := range n {
			lacks := !graph.Reach(f, a)[n]
			if lacks && (!ok || a < at) || !lacks && ok && a == at {
				t.Fatalf("Exit: %d %v, at %d: %v, of %s", at, ok, a, lacks, told(f))
			}
		}
		if !ok && at != 0 || ok && at >= n {
			t.Fatalf("Exit: %d %v, of %s", at, ok, told(f))
		}
	}
}
