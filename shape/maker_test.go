package shape_test

import (
	"math"
	"math/rand"
	"slices"

	"louver/api"
)

func pick[T any](r *rand.Rand, l []T) T { return l[r.Intn(len(l))] }

// count is how many things of a sort there are: often none, one or as many as there may be.
func count(r *rand.Rand, most int) int {
	return pick(r, []int{0, 1, 2, r.Intn(most + 1), r.Intn(most + 1), most})
}

func labels(n int) []api.Label { return make([]api.Label, n) }

func someLabels(r *rand.Rand, n int) []api.Label {
	l := labels(n)
	for k := range l {
		l[k] = api.Label(r.Uint64())
	}
	return l
}

// arrays are so many of length 1.
func arrays(n int) []api.Array { return slices.Repeat([]api.Array{{Len: 1}}, n) }

func op(n int) api.Instr { return api.Instr{Op: n} }

func with(n int, a int64) api.Instr { return api.Instr{Op: n, A: a} }

// nops are so many addresses, the last one a return.
func nops(n int) []api.Instr {
	return append(slices.Repeat([]api.Instr{op(api.InNop)}, n-1), op(api.InReturn))
}

func funcOf(code ...api.Instr) api.Function { return api.Function{Code: code} }

// one is a module of one function with this code.
func one(code ...api.Instr) api.Module { return api.Module{Funcs: []api.Function{funcOf(code...)}} }

// funcs are so many that return at once.
func funcs(n int) []api.Function {
	var l []api.Function
	for range n {
		l = append(l, funcOf(nops(1)...))
	}
	return l
}

// ordered is a module made by chance, in which no fault is.
func ordered(r *rand.Rand) api.Module {
	m := api.Module{Globals: someLabels(r, count(r, 32)), Channels: someLabels(r, count(r, 16))}
	for range count(r, 16) {
		m.Arrays = append(m.Arrays, api.Array{Len: 1 + count(r, 255), Label: api.Label(r.Uint64())})
	}
	size := 1 + r.Intn(12)
	for range count(r, 32) {
		n := 1 + r.Intn(size)
		if r.Intn(100) == 0 {
			n = 2048 - r.Intn(3)
		}
		m.Funcs = append(m.Funcs, api.Function{
			Level: api.Label(r.Uint64()), Params: someLabels(r, count(r, 8)), Results: someLabels(r, count(r, 4)),
			Locals: count(r, 32), Stack: count(r, 64), Code: make([]api.Instr, n),
		})
	}
	for f, g := range m.Funcs {
		for a := range g.Code {
			g.Code[a] = orderedInstr(r, m, f, known())
		}
		g.Code[len(g.Code)-1] = orderedInstr(r, m, f, []int{43, 46})
	}
	return m
}

// orderedInstr may stand in a function; one without any operand stands for one that has none to find.
func orderedInstr(r *rand.Rand, m api.Module, f int, ops []int) api.Instr {
	n := pick(r, ops)
	if sortOf(n) == anyNumber {
		return with(n, int64(r.Uint64())>>r.Intn(64))
	}
	most := places(m, f, sortOf(n)) - 1
	if most < 0 {
		return op(api.InDup)
	}
	return with(n, int64(pick(r, []int{0, most, r.Intn(most + 1)})))
}

// operands are numbers next to where a sort's operands end, and such as come to one when they are cut to fewer bits.
func operands(n int) []int64 {
	l := []int64{0, 1, -1, -2, 7, math.MinInt64, math.MinInt64 + 1, math.MaxInt64, 1 << 8, 1 << 16, 1 << 32, -1 << 32}
	for off := int64(-2); off <= 2; off++ {
		l = append(l, int64(n)+off, -int64(n)+off, int64(n)+off+1<<32)
	}
	return l
}

// sizes are numbers next to where something ends.
func sizes(most int) []int {
	return []int{most, most + 1, most + 2, most - 1, 0, 1, -1, -most, math.MinInt, math.MaxInt, 1<<32 + 1, -1<<32 + 1}
}

// spoil changes one thing of a module: most times it has a fault then.
func spoil(r *rand.Rand, m *api.Module) {
	some := func(most int) int { return pick(r, []int{most + 1, most + 1, most + 5, most, 0}) }
	if len(m.Funcs) > 0 && r.Intn(3) > 0 {
		spoilFunction(r, m, r.Intn(len(m.Funcs)))
		return
	}
	switch k := r.Intn(10); {
	case k == 0:
		m.Globals = labels(some(32))
	case k == 1:
		m.Channels = labels(some(16))
	case k == 2:
		m.Arrays = arrays(some(16))
	case k == 3:
		m.Funcs = append(m.Funcs, funcs(pick(r, []int{1, 32}))...)
	case len(m.Arrays) > 0:
		m.Arrays[r.Intn(len(m.Arrays))].Len = pick(r, sizes(256))
	}
}

func spoilFunction(r *rand.Rand, m *api.Module, f int) {
	g := &m.Funcs[f]
	switch r.Intn(20) {
	case 0:
		g.Params = labels(pick(r, []int{0, 8, 9, 300}))
	case 1:
		g.Results = labels(pick(r, []int{0, 4, 5, 300}))
	case 2:
		g.Locals = pick(r, sizes(32))
	case 3:
		g.Stack = pick(r, sizes(64))
	case 4:
		g.Code = nops(pick(r, []int{2048, 2049, 5000}))
	case 5:
		g.Code = nil
	case 6, 7:
		// What jumped to the last address may find none there now.
		g.Code = g.Code[:max(0, len(g.Code)-1)]
	default:
		if len(g.Code) > 0 {
			spoilInstr(r, m, f, r.Intn(len(g.Code)))
		}
	}
}

func spoilInstr(r *rand.Rand, m *api.Module, f, a int) {
	i := &m.Funcs[f].Code[a]
	switch r.Intn(3) {
	case 0:
		i.Op = pick(r, strangers())
	case 1:
		i.A = pick(r, operands(places(*m, f, sortOf(i.Op))))
	default:
		i.Op = pick(r, known())
		i.A = pick(r, operands(places(*m, f, sortOf(i.Op))))
	}
}

// made is a module made by chance, so many changes away from one without a fault.
func made(r *rand.Rand, changes int) api.Module {
	m := ordered(r)
	for range changes {
		spoil(r, &m)
	}
	return m
}

// copyOf is a module in new memory.
func copyOf(m api.Module) api.Module {
	m.Globals, m.Arrays, m.Channels, m.Funcs = slices.Clone(m.Globals), slices.Clone(m.Arrays), slices.Clone(m.Channels), slices.Clone(m.Funcs)
	for k := range m.Funcs {
		g := &m.Funcs[k]
		g.Params, g.Results, g.Code = slices.Clone(g.Params), slices.Clone(g.Results), slices.Clone(g.Code)
	}
	return m
}
