package graph_test

import (
	"math/rand"
	"reflect"
	"slices"
	"sync"
	"testing"

	"louver/api"
	"louver/graph"
)

// roomy is a copy of a function whose code has room behind its end, in which marks stand.
func roomy(f api.Function) api.Function {
	f.Code = slices.Concat(f.Code, slices.Repeat([]api.Instr{jump(0)}, 4))[:len(f.Code)]
	return f
}

func TestFunctionsStay(t *testing.T) { // P14.6, P0.3
	r := rand.New(rand.NewSource(1407))
	for range 500 {
		f := roomy(made(r, 12))
		f.Params, f.Results = []api.Label{3, 4}, []api.Label{5}
		whole := f.Code[:cap(f.Code)]
		was := slices.Clone(whole)
		ask(t, f)
		if !slices.Equal(whole, was) || !slices.Equal(f.Params, []api.Label{3, 4}) || !slices.Equal(f.Results, []api.Label{5}) {
			t.Fatalf("changed: %s", told(f))
		}
	}
}

// TestAnswersAreNew spoils what was answered, its room too, and asks again.
func TestAnswersAreNew(t *testing.T) { // P14.6, P0.3
	r := rand.New(rand.NewSource(1408))
	for range 300 {
		f := made(r, 12)
		n := len(f.Code)
		ways := modelWays(f.Code)
		for a := range n + 1 {
			next, ahead, reached := graph.Next(f, a), graph.Ahead(f, a), graph.Reach(f, a)
			for _, l := range [][]int{graph.Next(f, a), graph.Ahead(f, a)} {
				for k := range l[:cap(l)] {
					l[:cap(l)][k] = 99
				}
			}
			spoilt := graph.Reach(f, a)
			for k := range spoilt[:cap(spoilt)] {
				spoilt[:cap(spoilt)][k] = !ways[a][min(k, n)]
			}
			wantNodes(t, "Next", f, a, next, modelNext(f.Code, a))
			wantNodes(t, "Ahead", f, a, ahead, modelAhead(f.Code, a))
			if !slices.Equal(reached, ways[a]) {
				t.Fatalf("Reach of %d shares memory, of %s", a, told(f))
			}
		}
		none := graph.Reach(f, -1)
		for k := range none {
			none[k] = true
		}
		ask(t, f)
	}
}

// TestNothingIsKept changes a code in its place between two calls.
func TestNothingIsKept(t *testing.T) { // P14.6, P0.5
	r := rand.New(rand.NewSource(1409))
	for range 300 {
		f := made(r, 12)
		for range 4 {
			ask(t, f)
			copy(f.Code, made(r, 12).Code)
			f.Code = f.Code[:r.Intn(len(f.Code)+1)]
		}
	}
}

// TestCodeAlone changes what else a function has.
func TestCodeAlone(t *testing.T) { // P14.6
	r := rand.New(rand.NewSource(1410))
	for range 300 {
		f := made(r, 12)
		ask(t, f)
		f.Level = api.Label(r.Uint64())
		f.Params, f.Results = make([]api.Label, r.Intn(70)), make([]api.Label, r.Intn(70))
		f.Locals, f.Stack = r.Intn(200)-100, r.Intn(200)-100
		ask(t, f)
	}
}

func TestNilAndEmpty(t *testing.T) { // P0.4
	ask(t, api.Function{})
	ask(t, api.Function{Code: []api.Instr{}, Params: []api.Label{}, Results: []api.Label{}})
	if !reflect.DeepEqual(graph.Reach(api.Function{}, 0), []bool{true}) {
		t.Error("X of no code is not reached from itself")
	}
}

// TestMuch has far longer codes than layer 13 lets pass, of shapes of which a search that looks at things again and again would not come to its end.
func TestMuch(t *testing.T) { // P1
	const much = 1 << 20
	for what, c := range map[string]struct {
		fill  func(a int) api.Instr
		at    int
		stuck bool
	}{
		"nops":                  {func(int) api.Instr { return nop() }, 0, false},
		"jumps to the last one": {func(int) api.Instr { return jump(much - 1) }, 0, false},
		"zeros to the last one": {func(int) api.Instr { return zero(much - 1) }, 0, false},
		"zeros to the first":    {func(int) api.Instr { return zero(0) }, 0, false},
		"zeros back":            {func(a int) api.Instr { return zero(int64(a) / 2) }, 0, false},
		"zeros far on":          {func(a int) api.Instr { return zero(int64(a) + (much-int64(a))/2) }, 0, false},
		"returns":               {func(int) api.Instr { return back() }, 0, false},
		"jumps back":            {func(a int) api.Instr { return jump(max(0, int64(a)-1)) }, 0, true},
	} {
		f := funcOf(make([]api.Instr, much)...)
		for a := range f.Code {
			f.Code[a] = c.fill(a)
		}
		f.Code[much-1] = back()
		wantExit(t, f, c.at, c.stuck)
		for _, from := range []int{0, much / 2, much - 1, much} {
			if reached := graph.Reach(f, from); reached[much] != (!c.stuck || from >= much-1) || !reached[from] {
				t.Errorf("%s: X from %d: %v", what, from, reached[much])
			}
		}
		count := 0
		for a, b := range graph.Edges(f) {
			if count++; !modelEdge(f.Code, a, b) {
				t.Fatalf("%s: %d %d is no edge", what, a, b)
			}
		}
		if ahead := len(graph.Ahead(f, much)); count < much || ahead == 0 {
			t.Errorf("%s: %d edges, %d of them to X", what, count, ahead)
		}
	}
}

// TestCallsAtOnce makes calls from several sides at one time, of one function and of many: each has its own answer.
func TestCallsAtOnce(t *testing.T) { // P0.5
	shared := example()
	s := graph.Edges(shared)
	var workers sync.WaitGroup
	for seed := range int64(4) {
		workers.Go(func() {
			r := rand.New(rand.NewSource(1411 + seed))
			for range 200 {
				ask(t, made(r, 10))
				ask(t, shared)
				wantGone(t, shared, gone(s), modelEdges(shared.Code))
			}
		})
	}
	workers.Wait()
}
