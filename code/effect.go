package code

import "louver/api"

// effect is how many values an instruction takes from the stack and lays on it.
type effect struct{ pops, pushes int }

// Effect: P10.3.
func Effect(m api.Module, f int, i api.Instr) (int, int, bool) {
	if f < 0 || f >= len(m.Funcs) || !May(i) || !finds(m, m.Funcs[f], i) {
		return 0, 0, false
	}
	var callee api.Function
	if i.Op == api.InCall {
		callee = m.Funcs[i.A]
	}
	e := effects(m.Funcs[f], callee)[i.Op]
	return e.pops, e.pushes, true
}

// finds asks whether there is what the operand of an instruction, which may be, must find.
func finds(m api.Module, own api.Function, i api.Instr) bool {
	below := func(count int) bool { return i.A < int64(count) }
	switch i.Op {
	case api.InLocal:
		fallthrough
	case api.InSet:
		// Locals may be any number here, so a sum of both might go round.
		return below(len(own.Params)) || i.A-int64(len(own.Params)) < int64(own.Locals)
	case api.InGlobal:
		fallthrough
	case api.InSetGlobal:
		return below(len(m.Globals))
	case api.InLoad:
		fallthrough
	case api.InStore:
		return below(len(m.Arrays))
	case api.InJump:
		fallthrough
	case api.InZero:
		return below(len(own.Code))
	case api.InCall:
		return below(len(m.Funcs))
	case api.InSend:
		return below(len(m.Channels))
	}
	return true
}

// effects is what the instructions of a function do to the stack, a call being one of callee.
func effects(own, callee api.Function) [api.InSend + 1]effect {
	all := [...]effect{
		api.InConst:     {0, 1},
		api.InLocal:     {0, 1},
		api.InSet:       {1, 0},
		api.InGlobal:    {0, 1},
		api.InSetGlobal: {1, 0},
		api.InLoad:      {1, 1},
		api.InStore:     {2, 0},
		api.InDup:       {1, 2},
		api.InSwap:      {2, 2},
		api.InPop:       {1, 0},
		api.InNop:       {0, 0},
		api.InJump:      {0, 0},
		api.InZero:      {1, 0},
		api.InCall:      {len(callee.Params), len(callee.Results)},
		api.InReturn:    {len(own.Results), 0},
		api.InSend:      {1, 0},
	}
	for op := api.OpAdd; op <= api.OpLe; op++ {
		all[op] = effect{2, 1}
	}
	for op := api.OpNeg; op <= api.OpInv; op++ {
		all[op] = effect{1, 1}
	}
	return all
}
