package shape_test

import (
	"math/rand"
	"reflect"
	"slices"
	"sync"
	"testing"

	"louver/api"
)

// roomy is a copy of a list with room behind its end, in which a mark stands.
func roomy[T any](l []T, mark T) []T {
	return slices.Concat(l, slices.Repeat([]T{mark}, 4))[:len(l)]
}

// roomyModule is a copy of a module, all of whose lists have room.
func roomyModule(m api.Module) api.Module {
	m.Globals, m.Channels = roomy(m.Globals, 99), roomy(m.Channels, 99)
	m.Arrays, m.Funcs = roomy(m.Arrays, api.Array{Len: 99}), roomy(m.Funcs, api.Function{Locals: 99})
	for k := range m.Funcs {
		g := &m.Funcs[k]
		g.Params, g.Results, g.Code = roomy(g.Params, 99), roomy(g.Results, 99), roomy(g.Code, op(99))
	}
	return m
}

// wholeOf is a list with what stands in its room, in new memory.
func wholeOf[T any](l []T) []T { return slices.Clone(l[:cap(l)]) }

// wholeModule is a module with what stands in its lists' rooms, in new memory.
func wholeModule(m api.Module) api.Module {
	m.Globals, m.Arrays, m.Channels, m.Funcs = wholeOf(m.Globals), wholeOf(m.Arrays), wholeOf(m.Channels), wholeOf(m.Funcs)
	for k := range m.Funcs {
		g := &m.Funcs[k]
		g.Params, g.Results, g.Code = wholeOf(g.Params), wholeOf(g.Results), wholeOf(g.Code)
	}
	return m
}

// ask makes all calls about a module, and holds them against the model.
func ask(t *testing.T, m api.Module) {
	t.Helper()
	wantFault(t, "asked", m, modelCheck(m))
	for f := -1; f <= len(m.Funcs); f++ {
		wantLocals(t, m, f, modelLocals(m, f))
		for n := range 50 {
			for _, a := range []int64{-1, 0, 1, 5, 20} {
				wantInstr(t, m, f, with(n, a), modelInstr(m, f, with(n, a)))
			}
		}
	}
}

func TestModulesStay(t *testing.T) { // P13.6
	r := rand.New(rand.NewSource(1310))
	for range 300 {
		m := made(r, r.Intn(3))
		if r.Intn(3) == 0 {
			m = anyModule(r)
		}
		m = roomyModule(m)
		was := wholeModule(m)
		ask(t, m)
		if !reflect.DeepEqual(wholeModule(m), was) {
			t.Fatalf("changed: %s", told(was))
		}
	}
}

// TestNothingIsKept changes a module in its place between two calls.
func TestNothingIsKept(t *testing.T) { // P13.6, P0.5
	m := table()
	wantFault(t, "in order", m, api.Fault{})
	m.Funcs[1].Code[3].Op = 99
	wantFault(t, "a stranger", m, fault(api.ErrCode, 1, 3))
	m.Funcs[1].Code[3].Op = api.InNop
	wantFault(t, "in order again", m, api.Fault{})
	m.Arrays[1].Len = 0
	wantFault(t, "an array", m, fault(api.ErrShape, -1, 1))
	m.Arrays[1].Len = 256
	wantFault(t, "in order again", m, api.Fault{})
	wantLocals(t, m, 1, 5)
	m.Funcs[1].Locals = 1
	wantLocals(t, m, 1, 3)
	wantInstr(t, m, 1, with(api.InLocal, 3), api.ErrShape)
	m.Funcs[1].Params = labels(3)
	wantInstr(t, m, 1, with(api.InLocal, 3), api.OK)
	m.Funcs = m.Funcs[:1]
	wantInstr(t, m, 1, with(api.InLocal, 3), api.ErrArg)
	wantLocals(t, m, 1, 0)
	r := rand.New(rand.NewSource(1311))
	for range 150 {
		m := made(r, 0)
		for range 4 {
			ask(t, m)
			spoil(r, &m)
		}
	}
}

// TestNilAndEmpty has no lists in the place of empty ones.
func TestNilAndEmpty(t *testing.T) { // P0.4
	empty := api.Module{Globals: labels(0), Arrays: arrays(0), Channels: labels(0), Funcs: []api.Function{}}
	wantFault(t, "empty lists", empty, api.Fault{})
	ask(t, empty)
	ask(t, api.Module{})
	g := api.Function{Params: labels(0), Results: labels(0), Code: []api.Instr{}}
	wantFault(t, "an empty code", api.Module{Funcs: []api.Function{g}}, fault(api.ErrEmpty, 0, -1))
	wantFault(t, "no code", api.Module{Funcs: []api.Function{{}}}, fault(api.ErrEmpty, 0, -1))
	g.Code = nops(1)
	wantFault(t, "empty lists of a function", api.Module{Funcs: []api.Function{g}}, api.Fault{})
}

// TestMuch has far more of each thing than there may be.
func TestMuch(t *testing.T) { // P1
	const much = 1 << 20
	for what, c := range tables() {
		wantFault(t, what, c.of(much), fault(api.ErrMany, -1, 0))
	}
	for _, g := range []api.Function{{Code: make([]api.Instr, much)}, {Params: labels(much)}, {Results: labels(much)}} {
		m := api.Module{Funcs: []api.Function{g}}
		wantFault(t, "much of a function", m, fault(api.ErrMany, 0, -1))
		wantLocals(t, m, 0, len(g.Params))
		wantInstr(t, m, 0, with(api.InJump, much-1), modelInstr(m, 0, with(api.InJump, much-1)))
		wantInstr(t, m, 0, with(api.InJump, much), api.ErrShape)
		wantInstr(t, m, 0, with(api.InSet, much-1), modelInstr(m, 0, with(api.InSet, much-1)))
	}
}

// TestCallsAtOnce makes calls from several sides at one time, of one module and of many: each has its own answer.
func TestCallsAtOnce(t *testing.T) { // P0.5
	shared := table()
	var workers sync.WaitGroup
	for seed := range int64(4) {
		workers.Go(func() {
			r := rand.New(rand.NewSource(1312 + seed))
			for range 60 {
				ask(t, made(r, r.Intn(3)))
				ask(t, shared)
			}
		})
	}
	workers.Wait()
}
