package code_test

import (
	"math"
	"math/big"
	"math/rand"
	"slices"
	"testing"

	"louver/api"
	"louver/code"
)

// told is an answer of Effect.
type told struct {
	pops, pushes int
	ok           bool
}

var none = told{}

func effect(m api.Module, f int, i api.Instr) told {
	pops, pushes, ok := code.Effect(m, f, i)
	return told{pops, pushes, ok}
}

func wantEffect(t *testing.T, m api.Module, f int, i api.Instr, want told) {
	t.Helper()
	if got := effect(m, f, i); got != want {
		t.Errorf("Effect(.., %d, %q %v) = %v, want %v, of %+v", f, code.Name(i.Op), i, got, want, m)
	}
}

// places is how many things an operand of a sort can find; Locals below 0 take none away.
func places(m api.Module, f, operand int) *big.Int {
	own := m.Funcs[f]
	n := 0
	switch operand {
	case aLocal:
		more := big.NewInt(max(0, int64(own.Locals)))
		return more.Add(more, big.NewInt(int64(len(own.Params))))
	case aGlobal:
		n = len(m.Globals)
	case anArray:
		n = len(m.Arrays)
	case anAddress:
		n = len(own.Code)
	case aFunction:
		n = len(m.Funcs)
	case aChannel:
		n = len(m.Channels)
	}
	return big.NewInt(int64(n))
}

// modelEffect is Effect by the chapter's table.
func modelEffect(m api.Module, f int, i api.Instr) told {
	c, _ := rowOf(i.Op)
	if f < 0 || f >= len(m.Funcs) || !modelMay(i) {
		return none
	}
	finds := c.operand != noOperand && c.operand != anyNumber
	if finds && big.NewInt(i.A).Cmp(places(m, f, c.operand)) >= 0 {
		return none
	}
	count := func(n int) int {
		switch n {
		case calleesParams:
			return len(m.Funcs[i.A].Params)
		case calleesResults:
			return len(m.Funcs[i.A].Results)
		case ownResults:
			return len(m.Funcs[f].Results)
		}
		return n
	}
	return told{count(c.pops), count(c.pushes), true}
}

// example is the chapter's module.
func example() api.Module {
	return api.Module{
		Globals: []api.Label{0},
		Arrays:  []api.Array{{Len: 1}},
		Funcs: []api.Function{
			{Params: []api.Label{0}, Results: []api.Label{0, 0}, Locals: 1, Code: make([]api.Instr, 3)},
			{Results: []api.Label{0}},
		},
	}
}

func TestEffectExamples(t *testing.T) { // P10.3
	m := example()
	for _, c := range []struct {
		f, op int
		a     int64
		want  told
	}{
		{0, api.InCall, 0, told{1, 2, true}}, {0, api.InCall, 1, told{0, 1, true}}, {0, api.InCall, 2, none}, {1, api.InCall, 0, told{1, 2, true}},
		{0, api.InReturn, 0, told{2, 0, true}}, {1, api.InReturn, 0, told{1, 0, true}}, {0, api.InReturn, 1, none},
		{0, api.InLocal, 0, told{0, 1, true}}, {0, api.InLocal, 1, told{0, 1, true}}, {0, api.InLocal, 2, none}, {1, api.InLocal, 0, none},
		{0, api.InSet, 1, told{1, 0, true}}, {0, api.InSet, 2, none}, {1, api.InSet, 0, none}, {0, api.InSet, -1, none},
		{0, api.InGlobal, 0, told{0, 1, true}}, {0, api.InGlobal, 1, none}, {0, api.InSetGlobal, 0, told{1, 0, true}}, {1, api.InSetGlobal, 1, none},
		{0, api.InLoad, 0, told{1, 1, true}}, {0, api.InLoad, 1, none}, {1, api.InStore, 0, told{2, 0, true}}, {1, api.InStore, 1, none},
		{0, api.InJump, 2, told{0, 0, true}}, {0, api.InJump, 3, none}, {0, api.InZero, 2, told{1, 0, true}}, {0, api.InZero, 3, none},
		{1, api.InJump, 0, none}, {1, api.InZero, 0, none}, {0, api.InJump, -1, none},
		{0, api.InSend, 0, none}, {1, api.InSend, 0, none},
		{0, api.InConst, -5, told{0, 1, true}}, {0, api.InConst, math.MaxInt64, told{0, 1, true}},
		{0, api.OpAdd, 0, told{2, 1, true}}, {0, api.OpAdd, 1, none}, {1, api.OpLe, 0, told{2, 1, true}}, {1, api.OpNeg, 0, told{1, 1, true}}, {1, api.OpInv, 0, told{1, 1, true}},
		{0, api.InDup, 0, told{1, 2, true}}, {0, api.InSwap, 0, told{2, 2, true}}, {0, api.InPop, 0, told{1, 0, true}}, {0, api.InNop, 0, told{0, 0, true}},
		{0, api.InNop, 1, none}, {0, 18, 0, none}, {0, 0, 0, none}, {0, -1, 0, none}, {0, 1<<32 + api.InNop, 0, none},
		{2, api.InNop, 0, none}, {-1, api.InNop, 0, none}, {2, api.InGlobal, 0, none}, {2, api.InCall, 0, none},
		{-1, api.InConst, 0, none}, {math.MaxInt, api.OpAdd, 0, none}, {math.MinInt, api.InReturn, 0, none}, {1 << 32, api.InNop, 0, none},
	} {
		wantEffect(t, m, c.f, api.Instr{Op: c.op, A: c.a}, c.want)
	}
	m.Channels = []api.Label{0}
	wantEffect(t, m, 0, api.Instr{Op: api.InSend}, told{1, 0, true})
	wantEffect(t, m, 1, api.Instr{Op: api.InSend}, told{1, 0, true})
	wantEffect(t, m, 0, api.Instr{Op: api.InSend, A: 1}, none)
	wantEffect(t, api.Module{}, 0, api.Instr{Op: api.InNop}, none)
}

// TestLocals goes through the edges of parameters and Locals, which may be any number in a module that nothing else is asked of.
func TestLocals(t *testing.T) { // P10.3
	for _, c := range []struct {
		params, locals int
		a              int64
		want           bool
	}{
		{0, 0, 0, false}, {0, 1, 0, true}, {0, 1, 1, false}, {3, 0, 2, true}, {3, 0, 3, false}, {3, 4, 3, true}, {3, 4, 6, true}, {3, 4, 7, false},
		{3, -1, 2, true}, {3, -1, 3, false}, {3, -1, 1, true}, {3, math.MinInt, 2, true}, {3, math.MinInt, 3, false}, {0, -1, 0, false}, {0, math.MinInt, 0, false},
		{3, math.MinInt, math.MaxInt64, false}, {3, -3, 0, true}, {3, -9, 0, true},
		{0, math.MaxInt, math.MaxInt64 - 1, true}, {0, math.MaxInt, math.MaxInt64, false}, {1, math.MaxInt, math.MaxInt64, true}, {8, math.MaxInt, math.MaxInt64, true},
		{8, math.MaxInt - 8, math.MaxInt64 - 1, true}, {8, math.MaxInt - 8, math.MaxInt64, false}, {8, math.MaxInt, 0, true}, {8, math.MaxInt, 8, true},
		{0, api.MaxLocals, api.MaxLocals - 1, true}, {0, api.MaxLocals, api.MaxLocals, false}, {0, api.MaxLocals + 9, api.MaxLocals + 8, true},
		{api.MaxParams + 3, 0, api.MaxParams + 2, true}, {api.MaxParams + 3, 2, api.MaxParams + 5, false}, {3, 4, -1, false}, {3, 4, math.MinInt64, false},
	} {
		m := api.Module{Funcs: []api.Function{{Locals: 5}, {Params: make([]api.Label, c.params), Locals: c.locals}, {Params: make([]api.Label, 5)}}}
		local, set := none, none
		if c.want {
			local, set = told{0, 1, true}, told{1, 0, true}
		}
		wantEffect(t, m, 1, api.Instr{Op: api.InLocal, A: c.a}, local)
		wantEffect(t, m, 1, api.Instr{Op: api.InSet, A: c.a}, set)
	}
}

// someModule has tables of any lengths, beyond the limits too, and fields that no verifier would let pass.
func someModule(r *rand.Rand) api.Module {
	labels := func(most int) []api.Label {
		l := make([]api.Label, r.Intn(most))
		for k := range l {
			l[k] = api.Label(r.Uint64())
		}
		return l
	}
	odd := func() int {
		return []int{0, 1, 2, 3, r.Intn(40), r.Intn(2000), -1, -r.Intn(20), math.MinInt, math.MaxInt}[r.Intn(10)]
	}
	m := api.Module{Globals: labels(5), Channels: labels(5)}
	if r.Intn(4) == 0 {
		m.Globals, m.Channels = labels(80), labels(50)
	}
	for range r.Intn(5) * (1 + r.Intn(5)) {
		m.Arrays = append(m.Arrays, api.Array{Len: odd(), Label: api.Label(r.Uint64())})
	}
	for range r.Intn(6) * (1 + r.Intn(8)) {
		g := api.Function{Level: api.Label(r.Uint64()), Params: labels(12), Results: labels(8), Locals: odd(), Stack: odd()}
		for range r.Intn(8) * (1 + 400*(r.Intn(9)/8)) {
			g.Code = append(g.Code, api.Instr{Op: r.Intn(60) - 5, A: int64(r.Uint64())})
		}
		m.Funcs = append(m.Funcs, g)
	}
	return m
}

// question is what Effect is asked about a module.
type question struct {
	f int
	i api.Instr
}

// questions are all Ops, some strangers, and operands next to where something ends, of some functions and of no functions.
func questions(r *rand.Rand, m api.Module) []question {
	fs := []int{-1, len(m.Funcs), len(m.Funcs) + 1, math.MinInt, math.MaxInt}
	for range 3 {
		fs = append(fs, r.Intn(len(m.Funcs)+1))
	}
	var l []question
	for _, f := range fs {
		for op := -1; op < 50; op++ {
			as := []int64{0, 1, -1, math.MinInt64, math.MaxInt64, 1 << 32, r.Int63n(20)}
			if c, _ := rowOf(op); c.operand > anyNumber && 0 <= f && f < len(m.Funcs) {
				n := places(m, f, c.operand)
				for off := int64(-2); off <= 1; off++ {
					if a := new(big.Int).Add(n, big.NewInt(off)); a.IsInt64() {
						as = append(as, a.Int64(), a.Int64()+1<<32)
					}
				}
			}
			for _, a := range as {
				l = append(l, question{f, api.Instr{Op: op, A: a}})
			}
		}
	}
	return l
}

func eachModule(t *testing.T, seed int64, count int, do func(r *rand.Rand, m api.Module, l []question)) {
	t.Helper()
	r := rand.New(rand.NewSource(seed))
	for range count {
		m := someModule(r)
		do(r, m, questions(r, m))
		if t.Failed() {
			return
		}
	}
}

func TestEffect(t *testing.T) { // P10.3
	found := map[int]int{}
	eachModule(t, 1004, 400, func(r *rand.Rand, m api.Module, l []question) {
		for _, q := range l {
			want := modelEffect(m, q.f, q.i)
			wantEffect(t, m, q.f, q.i, want)
			if want.ok {
				found[q.i.Op]++
			}
		}
	})
	for _, c := range chapter() {
		if found[c.op] < 100 {
			t.Errorf("%s is found %d times only", c.name, found[c.op])
		}
	}
}

// TestEffectLooksAtNothingElse changes what an effect has nothing to do with.
func TestEffectLooksAtNothingElse(t *testing.T) { // P10.3
	eachModule(t, 1005, 150, func(r *rand.Rand, m api.Module, l []question) {
		var was []told
		for _, q := range l {
			was = append(was, effect(m, q.f, q.i))
		}
		for k := range m.Globals {
			m.Globals[k] = api.Label(r.Uint64())
		}
		for k := range m.Arrays {
			m.Arrays[k] = api.Array{Len: -r.Intn(300)}
		}
		for k := range m.Channels {
			m.Channels[k] = 0
		}
		for k := range m.Funcs {
			g := &m.Funcs[k]
			g.Level, g.Stack = ^g.Level, -1-g.Stack
			clear(g.Params)
			clear(g.Results)
			for at := range g.Code {
				g.Code[at] = api.Instr{Op: r.Int() - r.Int(), A: int64(r.Uint64())}
			}
		}
		for k, q := range l {
			wantEffect(t, m, q.f, q.i, was[k])
		}
	})
}

// TestEffectOfMore puts more behind what a module has.
func TestEffectOfMore(t *testing.T) { // P10.5
	global := func(m *api.Module) { m.Globals = append(slices.Clone(m.Globals), 7) }
	array := func(m *api.Module) { m.Arrays = append(slices.Clone(m.Arrays), api.Array{Len: 3, Label: 7}) }
	channel := func(m *api.Module) { m.Channels = append(slices.Clone(m.Channels), 7) }
	function := func(m *api.Module) {
		more := api.Function{Params: make([]api.Label, 3), Results: make([]api.Label, 4), Locals: 9, Code: make([]api.Instr, 2)}
		m.Funcs = append(slices.Clone(m.Funcs), more)
	}
	all := func(m *api.Module) {
		for range 50 {
			global(m)
			array(m)
			channel(m)
			function(m)
		}
	}
	eachModule(t, 1006, 120, func(r *rand.Rand, m api.Module, l []question) {
		for _, add := range []func(*api.Module){global, array, channel, function, all} {
			greater := m
			add(&greater)
			for _, q := range l {
				if was := effect(m, q.f, q.i); was.ok {
					wantEffect(t, greater, q.f, q.i, was)
				}
			}
		}
		// What was not there before is found in the greater one.
		for op, add := range map[int]func(*api.Module){api.InGlobal: global, api.InSetGlobal: global, api.InLoad: array, api.InStore: array, api.InSend: channel, api.InCall: function} {
			if len(m.Funcs) == 0 {
				continue
			}
			c, _ := rowOf(op)
			i := api.Instr{Op: op, A: places(m, 0, c.operand).Int64()}
			wantEffect(t, m, 0, i, none)
			greater := m
			add(&greater)
			want := told{c.pops, c.pushes, true}
			if op == api.InCall {
				want = told{3, 4, true}
			}
			wantEffect(t, greater, 0, i, want)
		}
	})
}
