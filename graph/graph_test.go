package graph_test

import (
	"math/rand"
	"slices"
	"testing"

	"louver/api"
	"louver/graph"
)

// wantNodes holds lists of nodes against each other; one failure is enough, since those who go through many codes would tell thousands.
func wantNodes(t *testing.T, what string, f api.Function, a int, got, want []int) {
	t.Helper()
	if !slices.Equal(got, want) && !t.Failed() {
		t.Errorf("%s of %d: %v, want %v, in %s", what, a, got, want, told(f))
	}
}

func wantNext(t *testing.T, f api.Function, a int, want ...int) {
	t.Helper()
	wantNodes(t, "Next", f, a, graph.Next(f, a), want)
}

func wantAhead(t *testing.T, f api.Function, a int, want ...int) {
	t.Helper()
	wantNodes(t, "Ahead", f, a, graph.Ahead(f, a), want)
}

func TestNextExamples(t *testing.T) { // P14.1
	f := example()
	wantNext(t, f, 0, 1)
	wantNext(t, f, 1, 2, 4)
	wantNext(t, f, 2, 3)
	wantNext(t, f, 3, 1)
	wantNext(t, f, 4, 5)
	wantNext(t, f, 5)
	wantNext(t, f, 9)
	f = funcOf(zero(1), jump(9))
	wantNext(t, f, 0, 1)
	wantNext(t, f, 1)
}

func TestAheadExamples(t *testing.T) { // P14.1
	f := example()
	wantAhead(t, f, 1, 0, 3)
	wantAhead(t, f, 5, 4)
	wantAhead(t, f, 0)
	wantAhead(t, f, 2, 1)
	wantAhead(t, f, 9)
	wantAhead(t, f, -1)
}

// TestPlainInstructions has each instruction that is no branch and no end, and strangers, with operands that would be targets of others.
func TestPlainInstructions(t *testing.T) { // P14.1
	for _, n := range plain() {
		for _, a := range append(noTargets(4), 0, 1, 2, 3) {
			f := funcOf(nop(), with(n, a), back(), with(n, a))
			wantNext(t, f, 1, 2)
			wantNext(t, f, 3) // the last one's next address is none, and not X
			wantAhead(t, f, 2, 1)
			wantAhead(t, f, 4, 2)
			wantAhead(t, f, 0)
		}
	}
}

func TestReturns(t *testing.T) { // P14.1
	for _, a := range append(noTargets(3), 0, 1, 2) {
		f := funcOf(with(api.InReturn, a), nop(), with(api.InReturn, a))
		wantNext(t, f, 0, 3)
		wantNext(t, f, 2, 3)
		wantAhead(t, f, 3, 0, 2)
		wantAhead(t, f, 1)
	}
}

// TestTargets has a jump and a zero at each address of a code, to each address.
func TestTargets(t *testing.T) { // P14.1
	const n = 6
	for a := range n {
		for b := range n {
			f := funcOf(slices.Repeat([]api.Instr{back()}, n)...)
			f.Code[a] = jump(int64(b))
			wantNext(t, f, a, b)
			wantAhead(t, f, b, a)
			f.Code[a] = zero(int64(b))
			wantAhead(t, f, b, a)
			switch {
			case a == n-1 || b == a+1: // there is no next address, or it is the target
				wantNext(t, f, a, b)
			case b < a+1:
				wantNext(t, f, a, b, a+1)
				wantAhead(t, f, a+1, a)
			default:
				wantNext(t, f, a, a+1, b)
				wantAhead(t, f, a+1, a)
			}
		}
	}
}

// TestWrongTargets has jumps and zeros whose targets are no addresses: that of X, too, is none.
func TestWrongTargets(t *testing.T) { // P14.1
	const n = 4
	for _, target := range noTargets(n) {
		for a := range n {
			f := funcOf(slices.Repeat([]api.Instr{jump(0)}, n)...)
			f.Code[a] = jump(target)
			wantNext(t, f, a)
			f.Code[a] = zero(target)
			if a == n-1 {
				wantNext(t, f, a)
			} else {
				wantNext(t, f, a, a+1)
				wantAhead(t, f, a+1, modelAhead(f.Code, a+1)...)
			}
			wantAhead(t, f, n)
			for _, b := range noNodes(n) {
				wantAhead(t, f, b)
			}
		}
	}
}

func TestNextOfNoNode(t *testing.T) { // P14.1
	for _, f := range []api.Function{example(), funcOf(), funcOf(jump(0)), funcOf(jump(-1), zero(5), jump(9), zero(1<<32), nop())} {
		for _, a := range noNodes(len(f.Code)) {
			wantNext(t, f, a)
			wantAhead(t, f, a)
		}
	}
}

func TestNoCode(t *testing.T) { // P14.1: X is the node 0
	for _, f := range []api.Function{{}, funcOf([]api.Instr{}...), {Code: []api.Instr{}}} {
		wantNext(t, f, 0)
		wantAhead(t, f, 0)
	}
}

// ask holds all that there is to ask of a function against the model.
func ask(t *testing.T, f api.Function) {
	t.Helper()
	n := len(f.Code)
	ways := modelWays(f.Code)
	for a := range n + 1 {
		wantNext(t, f, a, modelNext(f.Code, a)...)
		wantAhead(t, f, a, modelAhead(f.Code, a)...)
		wantReach(t, f, a, ways[a])
	}
	for _, a := range noNodes(n) {
		wantNext(t, f, a)
		wantAhead(t, f, a)
		wantReach(t, f, a, make([]bool, n+1))
	}
	at, ok := modelExit(ways)
	wantExit(t, f, at, ok)
	wantEdges(t, f, modelEdges(f.Code))
}

func TestSmallCodes(t *testing.T) { // P14.1 to P14.4
	for n := range 4 {
		count := 0
		for f := range small(n) {
			ask(t, f)
			count++
		}
		if want := []int{1, 13, 15 * 15, 17 * 17 * 17}[n]; count != want {
			t.Errorf("%d codes of %d, want %d", count, n, want)
		}
	}
}

func TestMadeCodes(t *testing.T) { // P14.1 to P14.4
	r := rand.New(rand.NewSource(1401))
	stuck, free := 0, 0
	for range 6000 {
		f := made(r, 20)
		ask(t, f)
		if _, ok := graph.Exit(f); ok {
			stuck++
		} else if len(f.Code) > 3 {
			free++
		}
	}
	for range 30 {
		ask(t, made(r, 150))
	}
	if stuck < 1000 || free < 500 {
		t.Errorf("%d codes have addresses without a way to X, %d have none", stuck, free)
	}
}
