package shape_test

import (
	"fmt"
	"math"
	"math/rand"
	"slices"
	"strings"
	"testing"

	"louver/api"
	"louver/shape"
)

func fault(err api.Errno, f, at int) api.Fault { return api.Fault{Err: err, Func: f, At: at} }

// told is a module for a failure's text, cut off where nobody would read on.
func told(m api.Module) string {
	text := fmt.Sprintf("%+v", m)
	return text[:min(len(text), 3000)]
}

func wantFault(t *testing.T, what string, m api.Module, want api.Fault) {
	t.Helper()
	// One failure is enough: those who go through many modules would tell thousands.
	if got := shape.Check(m); got != want && !t.Failed() {
		t.Errorf("%s: Check = %+v, want %+v, of %s", what, got, want, told(m))
	}
}

func TestCheckExamples(t *testing.T) { // P13.1
	ret := op(api.InReturn)
	wantFault(t, "const 5, pop, return", one(with(api.InConst, 5), op(api.InPop), ret), api.Fault{})
	wantFault(t, "nop", one(op(api.InNop)), fault(api.ErrFall, 0, 0))
	wantFault(t, "const 5, zero 0", one(with(api.InConst, 5), with(api.InZero, 0)), fault(api.ErrFall, 0, 1))
	wantFault(t, "nothing", one(), fault(api.ErrEmpty, 0, -1))
	wantFault(t, "jump 1", one(with(api.InJump, 1)), fault(api.ErrShape, 0, 0))
	wantFault(t, "jump 0", one(with(api.InJump, 0)), api.Fault{})
	wantFault(t, "op 99", one(op(99)), fault(api.ErrCode, 0, 0))
	wantFault(t, "pop 1", one(with(api.InPop, 1)), fault(api.ErrShape, 0, 0))
	local := func(a int64) api.Module {
		return api.Module{Funcs: []api.Function{{Params: labels(1), Locals: 1, Code: []api.Instr{with(api.InLocal, a), ret}}}}
	}
	wantFault(t, "local 0", local(0), api.Fault{})
	wantFault(t, "local 1", local(1), api.Fault{})
	wantFault(t, "local 2", local(2), fault(api.ErrShape, 0, 0))
	wantFault(t, "local -1", local(-1), fault(api.ErrShape, 0, 0))
	wantFault(t, "an array of length 0", api.Module{Arrays: make([]api.Array, 1)}, fault(api.ErrShape, -1, 0))
	wantFault(t, "33 globals", api.Module{Globals: labels(33)}, fault(api.ErrMany, -1, 0))
	wantFault(t, "no tables, no functions", api.Module{}, api.Fault{})
}

// tables are the lists of a module, with how long they may be and modules in which they are so long.
func tables() map[string]struct {
	most int
	of   func(n int) api.Module
} {
	return map[string]struct {
		most int
		of   func(n int) api.Module
	}{
		"globals":   {32, func(n int) api.Module { return api.Module{Globals: labels(n)} }},
		"arrays":    {16, func(n int) api.Module { return api.Module{Arrays: arrays(n)} }},
		"channels":  {16, func(n int) api.Module { return api.Module{Channels: labels(n)} }},
		"functions": {32, func(n int) api.Module { return api.Module{Funcs: funcs(n)} }},
	}
}

func TestHowLongTables(t *testing.T) { // P13.1
	for what, c := range tables() {
		for n := range c.most + 1 {
			wantFault(t, what, c.of(n), api.Fault{})
		}
		for _, n := range []int{c.most + 1, c.most + 2, 256, 257, 1 << 16, 1<<16 + 1} {
			wantFault(t, what, c.of(n), fault(api.ErrMany, -1, 0))
		}
	}
	all := api.Module{Globals: labels(32), Arrays: arrays(16), Channels: labels(16), Funcs: funcs(32)}
	wantFault(t, "as much of all as there may be", all, api.Fault{})
}

func TestHowLongArrays(t *testing.T) { // P13.1
	for n, want := range map[int]api.Errno{
		1: api.OK, 2: api.OK, 255: api.OK, 256: api.OK, 0: api.ErrShape, 257: api.ErrShape, -1: api.ErrShape, -256: api.ErrShape,
		math.MinInt: api.ErrShape, math.MaxInt: api.ErrShape, 1<<32 + 1: api.ErrShape, 1<<16 + 1: api.ErrShape, 512: api.ErrShape,
	} {
		for k := range 16 {
			m := api.Module{Arrays: arrays(16)}
			m.Arrays[k].Len = n
			if want == api.OK {
				wantFault(t, "an array", m, api.Fault{})
				continue
			}
			wantFault(t, "an array", m, fault(want, -1, k))
			for j := range k {
				m.Arrays[j].Len = 0
				wantFault(t, "two arrays", m, fault(want, -1, j))
				m.Arrays[j].Len = 1
			}
		}
	}
}

// TestTablesFirst has faults of the tables beside one another, and beside a function's.
func TestTablesFirst(t *testing.T) { // P13.1, P0.1
	for what, c := range tables() {
		m := c.of(c.most + 1)
		m.Arrays = append(m.Arrays, api.Array{}, api.Array{Len: 257})
		wantFault(t, what+" and arrays", m, fault(api.ErrMany, -1, 0))
		m = c.of(c.most + 1)
		m.Funcs = append(m.Funcs, funcOf(), funcOf(op(99)))
		wantFault(t, what+" and functions", m, fault(api.ErrMany, -1, 0))
		m.Funcs = append([]api.Function{{Locals: 33}}, m.Funcs...)
		wantFault(t, what+" and functions", m, fault(api.ErrMany, -1, 0))
	}
	m := one(op(99))
	m.Arrays = append(arrays(3), api.Array{})
	wantFault(t, "an array and code", m, fault(api.ErrShape, -1, 3))
	m.Funcs[0] = api.Function{Locals: 33}
	wantFault(t, "an array and a head", m, fault(api.ErrShape, -1, 3))
}

// TestHeads has each part of a head at its edges, in each of three functions.
func TestHeads(t *testing.T) { // P13.1
	for what, c := range map[string]struct {
		set  func(g *api.Function, n int)
		errs map[int]api.Errno
	}{
		"params": {func(g *api.Function, n int) { g.Params = labels(n) }, map[int]api.Errno{
			0: api.OK, 1: api.OK, 8: api.OK, 9: api.ErrMany, 10: api.ErrMany, 264: api.ErrMany}},
		"results": {func(g *api.Function, n int) { g.Results = labels(n) }, map[int]api.Errno{
			0: api.OK, 1: api.OK, 4: api.OK, 5: api.ErrMany, 6: api.ErrMany, 260: api.ErrMany}},
		"code": {func(g *api.Function, n int) { g.Code = nops(n + 1)[1:] }, map[int]api.Errno{
			0: api.ErrEmpty, 1: api.OK, 2: api.OK, 2047: api.OK, 2048: api.OK, 2049: api.ErrMany, 2050: api.ErrMany, 1 << 16: api.ErrMany}},
		"locals": {func(g *api.Function, n int) { g.Locals = n }, map[int]api.Errno{
			0: api.OK, 1: api.OK, 32: api.OK, 33: api.ErrMany, 34: api.ErrMany, math.MaxInt: api.ErrMany, 1 << 32: api.ErrMany,
			-1: api.ErrShape, -32: api.ErrShape, math.MinInt: api.ErrShape, -1 << 32: api.ErrShape}},
		"stack": {func(g *api.Function, n int) { g.Stack = n }, map[int]api.Errno{
			0: api.OK, 1: api.OK, 64: api.OK, 65: api.ErrMany, 66: api.ErrMany, math.MaxInt: api.ErrMany, 1 << 32: api.ErrMany,
			-1: api.ErrShape, -64: api.ErrShape, math.MinInt: api.ErrShape, -1 << 32: api.ErrShape}},
	} {
		for n, err := range c.errs {
			for f := range 3 {
				m := api.Module{Funcs: funcs(3)}
				c.set(&m.Funcs[f], n)
				want := api.Fault{}
				if err != api.OK {
					want = fault(err, f, -1)
				}
				wantFault(t, what, m, want)
			}
		}
	}
	most := api.Function{Params: labels(8), Results: labels(4), Locals: 32, Stack: 64, Code: nops(2048)}
	wantFault(t, "as much of all as there may be", api.Module{Funcs: slices.Repeat([]api.Function{most}, 32)}, api.Fault{})
}

// TestHeadsOrder has faults of a head beside one another, and beside the code's.
func TestHeadsOrder(t *testing.T) { // P13.1, P0.1
	many := map[string]func(g *api.Function){
		"params":  func(g *api.Function) { g.Params = labels(9) },
		"results": func(g *api.Function) { g.Results = labels(5) },
		"code":    func(g *api.Function) { g.Code = slices.Repeat([]api.Instr{op(99)}, 2049) },
		"locals":  func(g *api.Function) { g.Locals = 33 },
		"stack":   func(g *api.Function) { g.Stack = 65 },
	}
	odd := map[string]func(g *api.Function){
		"locals below 0": func(g *api.Function) { g.Locals = -1 },
		"stack below 0":  func(g *api.Function) { g.Stack = -1 },
	}
	codes := [][]api.Instr{nil, {op(99)}, {op(api.InNop)}, {with(api.InJump, 1)}, nops(1), {op(99), op(api.InReturn)}}
	check := func(what string, want api.Errno, changes ...func(g *api.Function)) {
		for _, code := range codes {
			m := api.Module{Funcs: []api.Function{funcOf(nops(3)...), funcOf(code...), funcOf()}}
			for _, change := range changes {
				change(&m.Funcs[1])
			}
			wantFault(t, what, m, fault(want, 1, -1))
		}
	}
	for a, first := range many {
		check(a, api.ErrMany, first)
		for b, second := range odd {
			if !strings.HasPrefix(b, a) { // one number is not both
				check(a+" and "+b, api.ErrMany, first, second)
			}
		}
	}
	for a, change := range odd {
		check(a, api.ErrShape, change)
	}
	check("both below 0", api.ErrShape, odd["locals below 0"], odd["stack below 0"])
}

// TestFunctionsInOrder has each two faults in two functions: the first function's is told, whatever sort it is of.
func TestFunctionsInOrder(t *testing.T) { // P13.1, P0.1
	wrong := []struct {
		g    api.Function
		err  api.Errno
		head bool
	}{
		{api.Function{Locals: 33, Code: nops(1)}, api.ErrMany, true},
		{api.Function{Stack: -1, Code: nops(1)}, api.ErrShape, true},
		{api.Function{}, api.ErrEmpty, true},
		{funcOf(op(99), op(api.InReturn)), api.ErrCode, false},
		{funcOf(with(api.InSend, 0), op(api.InReturn)), api.ErrShape, false},
		{funcOf(op(api.InDup)), api.ErrFall, false},
	}
	for _, first := range wrong {
		for _, second := range wrong {
			for f := range 4 {
				m := api.Module{Funcs: append(funcs(f), first.g, second.g)}
				want := fault(first.err, f, 0)
				if first.head {
					want.At = -1
				}
				wantFault(t, "two functions", m, want)
				m.Funcs = slices.Insert(m.Funcs, f+1, funcs(2)...)
				wantFault(t, "two functions, others between", m, want)
			}
		}
	}
}

// table is a module with something of all sorts, whose second function's code is to be changed.
func table() api.Module {
	return api.Module{Globals: labels(3), Arrays: arrays(2), Channels: labels(4), Funcs: []api.Function{
		funcOf(nops(9)...), {Params: labels(2), Results: labels(3), Locals: 3, Stack: 5, Code: nops(7)}, funcOf(nops(1)...), funcOf(nops(2)...), funcOf(nops(3)...), funcOf(nops(4)...),
	}}
}

// TestAddresses lays each instruction, with each operand near to an edge, at each address.
func TestAddresses(t *testing.T) { // P13.1
	m := table()
	was := m.Funcs[1].Code
	for _, n := range append(known(), strangers()...) {
		for _, a := range operands(places(m, 1, sortOf(n))) {
			i := with(n, a)
			err := modelInstr(m, 1, i)
			for at := range was {
				code := slices.Clone(was)
				code[at] = i
				m.Funcs[1].Code = code
				want := api.Fault{}
				if err != api.OK {
					want = fault(err, 1, at)
				} else if at == 6 && n != 43 && n != 46 {
					want = fault(api.ErrFall, 1, at)
				}
				wantFault(t, "an instruction", m, want)
			}
		}
	}
}

// TestHowFarOperandsGo writes out what is the last operand of each sort.
func TestHowFarOperandsGo(t *testing.T) { // P13.1, P13.2
	for n, last := range map[int]int64{33: 4, 34: 4, 35: 2, 36: 2, 37: 1, 38: 1, 43: 6, 44: 6, 45: 5, 47: 3} {
		m := table()
		for a := range last + 3 {
			m.Funcs[1].Code[2] = with(n, a)
			want, err := api.Fault{}, api.OK
			if a > last {
				want, err = fault(api.ErrShape, 1, 2), api.ErrShape
			}
			wantFault(t, "an operand", m, want)
			wantInstr(t, m, 1, with(n, a), err)
		}
		m.Funcs[1].Code[2] = with(n, -1)
		wantFault(t, "an operand below 0", m, fault(api.ErrShape, 1, 2))
	}
	for _, n := range []int{1, 2, 3, 4, 5, 6, 7, 8, 9, 10, 11, 12, 13, 14, 15, 16, 17, 39, 40, 41, 42, 46} {
		m := table()
		for a, want := range map[int64]api.Fault{0: {}, 1: fault(api.ErrShape, 1, 2), -1: fault(api.ErrShape, 1, 2), 5: fault(api.ErrShape, 1, 2)} {
			m.Funcs[1].Code[2] = with(n, a)
			wantFault(t, "no operand", m, want)
		}
	}
	for _, a := range []int64{0, 1, -1, 99999, math.MinInt64, math.MaxInt64} {
		m := table()
		m.Funcs[1].Code[2] = with(api.InConst, a)
		wantFault(t, "const", m, api.Fault{})
	}
}

// TestOperandsOfNothing has operands that have nothing to find.
func TestOperandsOfNothing(t *testing.T) { // P13.1
	for n, want := range map[int]api.Fault{
		33: fault(api.ErrShape, 0, 0), 34: fault(api.ErrShape, 0, 0), 35: fault(api.ErrShape, 0, 0), 36: fault(api.ErrShape, 0, 0),
		37: fault(api.ErrShape, 0, 0), 38: fault(api.ErrShape, 0, 0), 47: fault(api.ErrShape, 0, 0),
		43: {}, 44: {}, 45: {}, 32: {}, 46: {},
	} {
		wantFault(t, "an operand 0", one(op(n), op(api.InReturn)), want)
	}
}

// TestLast has each instruction at the end of a function of which nothing else is wrong.
func TestLast(t *testing.T) { // P13.1
	for _, n := range known() {
		want := fault(api.ErrFall, 1, 6)
		if n == api.InJump || n == api.InReturn {
			want = api.Fault{}
		}
		m := table()
		m.Funcs[1].Code[6] = op(n)
		wantFault(t, "the last one", m, want)
		// A way off the end is none of the others', and it does not matter that nothing comes there.
		m.Funcs[1].Code[5] = op(api.InReturn)
		wantFault(t, "the last one, behind a return", m, want)
		m.Funcs[1].Code[5] = with(api.InJump, 0)
		wantFault(t, "the last one, behind a jump", m, want)
		m.Funcs[1].Code = m.Funcs[1].Code[6:]
		if want != (api.Fault{}) {
			want.At = 0
		}
		wantFault(t, "the only one", m, want)
	}
	m := table()
	m.Funcs[1].Code[6] = with(api.InJump, 7)
	wantFault(t, "a jump off the end", m, fault(api.ErrShape, 1, 6))
	m.Funcs[1].Code[6] = with(api.InReturn, 1)
	wantFault(t, "a return with an operand", m, fault(api.ErrShape, 1, 6))
	m.Funcs[1].Code[6] = with(api.InNop, 1)
	wantFault(t, "a nop with an operand", m, fault(api.ErrShape, 1, 6))
	m.Funcs[1].Code[6] = with(99, 1)
	wantFault(t, "a stranger", m, fault(api.ErrCode, 1, 6))
}

// TestFirstAddress has two faults in one code: that of the lesser address is told.
func TestFirstAddress(t *testing.T) { // P13.1, P0.1
	wrong := []api.Instr{op(0), op(48), with(18, 5), with(api.InPop, 1), with(api.InLoad, 2), with(api.InCall, -1)}
	for _, first := range wrong {
		for _, second := range append(wrong, op(api.InNop)) {
			for a := range 6 {
				for b := a + 1; b < 7; b++ {
					m := table()
					m.Funcs[1].Code[a], m.Funcs[1].Code[b] = first, second
					wantFault(t, "two addresses", m, fault(modelInstr(m, 1, first), 1, a))
				}
			}
		}
	}
}

// TestSmallCodes goes through all codes of up to three of some instructions.
func TestSmallCodes(t *testing.T) { // P13.1
	some := []api.Instr{op(0), op(1), with(1, 1), op(18), op(31), with(32, -9), op(33), with(33, 1), with(34, -1), op(35), with(36, 1), op(37), with(38, 2),
		op(39), op(42), with(42, -1), op(43), with(43, 1), with(43, 2), with(43, 3), with(43, -1), op(44), with(44, 1), with(44, 2), with(44, 3), op(45), with(45, 1), op(46), with(46, 1), op(47), op(48)}
	codes := [][]api.Instr{nil}
	for from := 0; from < len(codes); from++ {
		m := api.Module{Globals: labels(1), Arrays: arrays(2), Funcs: []api.Function{{Params: labels(1), Code: codes[from]}}}
		wantFault(t, "a small code", m, modelCheck(m))
		if len(codes[from]) < 3 {
			for _, i := range some {
				codes = append(codes, append(slices.Clip(codes[from]), i))
			}
		}
	}
}

// TestLabelsMakeNoDifference changes all labels, Levels and elements that no fault is of.
func TestLabelsMakeNoDifference(t *testing.T) { // P13.1
	r := rand.New(rand.NewSource(1301))
	for range 500 {
		m := made(r, r.Intn(3))
		want := shape.Check(m)
		for _, l := range [][]api.Label{m.Globals, m.Channels} {
			copy(l, someLabels(r, len(l)))
		}
		for k := range m.Arrays {
			m.Arrays[k].Label = api.Label(r.Uint64())
		}
		for k := range m.Funcs {
			g := &m.Funcs[k]
			g.Level = math.MaxUint64
			copy(g.Params, someLabels(r, len(g.Params)))
			clear(g.Results)
		}
		wantFault(t, "other labels", m, want)
	}
}

func TestOrderedModules(t *testing.T) { // P13.1
	r := rand.New(rand.NewSource(1302))
	for range 3000 {
		m := ordered(r)
		wantFault(t, "a module in order", m, api.Fault{})
		if want := modelCheck(m); want != (api.Fault{}) {
			t.Fatalf("the test's own module has %+v: %s", want, told(m))
		}
	}
}

func TestSpoiltModules(t *testing.T) { // P13.1
	r := rand.New(rand.NewSource(1303))
	type sort struct {
		err      api.Errno
		function bool
		head     bool
	}
	found := map[sort]int{}
	for range 10000 {
		m := made(r, 1+r.Intn(4))
		want := modelCheck(m)
		wantFault(t, "a spoilt module", m, want)
		if t.Failed() {
			return
		}
		found[sort{want.Err, want.Func >= 0, want.At < 0}]++
	}
	for _, s := range []sort{{api.OK, true, false}, {api.ErrMany, false, false}, {api.ErrShape, false, false}, {api.ErrMany, true, true}, {api.ErrShape, true, true},
		{api.ErrEmpty, true, true}, {api.ErrCode, true, false}, {api.ErrShape, true, false}, {api.ErrFall, true, false}} {
		if found[s] < 100 {
			t.Errorf("too few of %+v: %v", s, found)
		}
	}
}
