package shape_test

import (
	"math"
	"math/rand"
	"testing"

	"louver/api"
	"louver/shape"
)

func wantInstr(t *testing.T, m api.Module, f int, i api.Instr, want api.Errno) {
	t.Helper()
	if got := shape.Instr(m, f, i); got != want && !t.Failed() {
		t.Errorf("Instr(.., %d, %v) = %d, want %d, of %s", f, i, got, want, told(m))
	}
}

func TestInstrExamples(t *testing.T) { // P13.2
	m := one(op(api.InReturn))
	wantInstr(t, m, 0, with(api.InLoad, 0), api.ErrShape)
	wantInstr(t, m, 0, with(api.OpAdd, 0), api.OK)
	wantInstr(t, m, 1, with(api.OpAdd, 0), api.ErrArg)
	wantInstr(t, api.Module{}, 0, op(api.InNop), api.ErrArg)
}

// noFunctions are no numbers of functions of a module.
func noFunctions(m api.Module) []int {
	n := len(m.Funcs)
	return []int{-1, -2, n, n + 1, n + 256, n + 1<<32, 1 << 32, -1 << 32, math.MinInt, math.MinInt + 1, math.MaxInt}
}

// TestInstrOfNoFunction has instructions that are wrong besides.
func TestInstrOfNoFunction(t *testing.T) { // P13.2, P0.1
	for _, m := range []api.Module{{}, table(), {Globals: labels(2), Channels: labels(2), Arrays: arrays(2)}} {
		for _, f := range noFunctions(m) {
			for _, i := range []api.Instr{op(api.InNop), op(99), with(api.InPop, 1), with(api.InConst, 5), op(api.InJump), op(api.InLocal), op(api.InCall), op(api.InGlobal), {}} {
				wantInstr(t, m, f, i, api.ErrArg)
			}
		}
	}
}

// TestUnknownInstr has strangers with whatever operand.
func TestUnknownInstr(t *testing.T) { // P13.2
	m := table()
	for _, n := range strangers() {
		for _, a := range operands(3) {
			for f := range m.Funcs {
				wantInstr(t, m, f, with(n, a), api.ErrCode)
			}
		}
	}
}

// anyModule has tables of any lengths, beyond the limits too, and numbers that Check does not let pass.
func anyModule(r *rand.Rand) api.Module {
	count := func() int { return pick(r, []int{0, 1, 2, 3, r.Intn(50), r.Intn(300)}) }
	odd := func() int { return pick(r, append(sizes(32), r.Intn(40))) }
	m := api.Module{Globals: someLabels(r, count()), Channels: someLabels(r, count())}
	for range count() {
		m.Arrays = append(m.Arrays, api.Array{Len: odd(), Label: api.Label(r.Uint64())})
	}
	for range count() {
		g := api.Function{Params: labels(count()), Results: labels(count()), Locals: odd(), Stack: odd(), Code: make([]api.Instr, count())}
		for k := range g.Code {
			g.Code[k] = api.Instr{Op: r.Intn(60) - 5, A: int64(r.Uint64())}
		}
		m.Funcs = append(m.Funcs, g)
	}
	return m
}

// TestInstrOfAnyModule asks for all instructions of functions at the first, the last and some other place.
func TestInstrOfAnyModule(t *testing.T) { // P13.2
	r := rand.New(rand.NewSource(1304))
	type answer struct {
		op  int
		err api.Errno
	}
	found := map[answer]int{}
	for range 300 {
		m := anyModule(r)
		fs := noFunctions(m)
		if n := len(m.Funcs); n > 0 {
			fs = []int{0, n - 1, r.Intn(n), pick(r, fs)}
		}
		for _, f := range fs {
			for n := -1; n <= 49; n++ {
				var l []int64
				if f >= 0 && f < len(m.Funcs) {
					l = operands(places(m, f, sortOf(n)))
				}
				for _, a := range append(l, 0, int64(r.Uint64()), r.Int63n(300)) {
					want := modelInstr(m, f, with(n, a))
					wantInstr(t, m, f, with(n, a), want)
					found[answer{n, want}]++
				}
			}
		}
		if t.Failed() {
			return
		}
	}
	for _, n := range known() {
		if n != api.InConst && found[answer{n, api.ErrShape}] < 100 || found[answer{n, api.OK}] < 100 || found[answer{n, api.ErrArg}] < 100 {
			t.Errorf("%d is asked for too seldom", n)
		}
	}
}

// TestInstrLooksAtNothingElse changes what an instruction has nothing to do with.
func TestInstrLooksAtNothingElse(t *testing.T) { // P13.2
	m := table()
	type question struct {
		f int
		i api.Instr
	}
	was := map[question]api.Errno{}
	for f := range m.Funcs {
		for n := range 50 {
			for a := int64(-1); a < 12; a++ {
				q := question{f, with(n, a)}
				was[q] = shape.Instr(m, f, q.i)
			}
		}
	}
	for k := range m.Arrays {
		m.Arrays[k].Len = -5
	}
	for k := range m.Funcs {
		g := &m.Funcs[k]
		g.Results, g.Stack, g.Level = labels(70), -1, 9
		for a := range g.Code {
			g.Code[a] = with(99, -1)
		}
	}
	for q, want := range was {
		wantInstr(t, m, q.f, q.i, want)
	}
}

// TestInstrOfCheckedModules asks for each instruction of a module without a fault, and for the last ones of those that run off their end.
func TestInstrOfCheckedModules(t *testing.T) { // P13.1, P13.2
	r := rand.New(rand.NewSource(1305))
	for range 2000 {
		m := made(r, r.Intn(3))
		got := shape.Check(m)
		for f, g := range m.Funcs {
			for a, i := range g.Code {
				if here := fault(got.Err, f, a); got == (api.Fault{}) || got == here && got.Err == api.ErrFall {
					wantInstr(t, m, f, i, api.OK)
				} else if got == here {
					wantInstr(t, m, f, i, got.Err)
				}
			}
		}
	}
}

func wantLocals(t *testing.T, m api.Module, f, want int) {
	t.Helper()
	if got := shape.Locals(m, f); got != want && !t.Failed() {
		t.Errorf("Locals(.., %d) = %d, want %d, of %s", f, got, want, told(m))
	}
}

func TestLocals(t *testing.T) { // P13.3
	for locals, more := range map[int]int{
		0: 0, 1: 1, 2: 2, 31: 31, 32: 32, 33: 32, 34: 32, 64: 32, 256: 32, 1 << 32: 32, 1<<32 + 1: 32, math.MaxInt: 32, math.MaxInt - 1: 32,
		-1: 0, -2: 0, -32: 0, -33: 0, -1 << 32: 0, -1<<32 + 5: 0, math.MinInt: 0, math.MinInt + 7: 0,
	} {
		for _, params := range []int{0, 1, 2, 7, 8, 9, 10, 300, 1 << 16} {
			g := api.Function{Params: labels(params), Results: labels(3), Locals: locals, Stack: 17}
			m := api.Module{Funcs: []api.Function{{Locals: 3}, g, {Params: labels(5)}}}
			wantLocals(t, m, 1, params+more)
			wantLocals(t, m, 0, 3)
			wantLocals(t, m, 2, 5)
			// As many there are for the instructions.
			for _, n := range []int{api.InLocal, api.InSet} {
				wantInstr(t, m, 1, with(n, int64(params+more)), api.ErrShape)
				if params+more > 0 {
					wantInstr(t, m, 1, with(n, int64(params+more-1)), api.OK)
				}
			}
		}
	}
}

func TestLocalsOfNoFunction(t *testing.T) { // P13.3
	for _, m := range []api.Module{{}, table(), {Globals: labels(9)}, {Funcs: []api.Function{{Params: labels(9), Locals: 9}}}} {
		for _, f := range noFunctions(m) {
			wantLocals(t, m, f, 0)
		}
	}
}

func TestLocalsOfAnyModule(t *testing.T) { // P13.3
	r := rand.New(rand.NewSource(1306))
	for range 500 {
		m := anyModule(r)
		for f := -1; f <= len(m.Funcs); f++ {
			wantLocals(t, m, f, modelLocals(m, f))
		}
	}
}
