package shape

import "louver/api"

func isKnown(op int) bool {
	return api.OpAdd <= op && op <= api.OpInv || api.InConst <= op && op <= api.InSend
}

// mayOperand asks whether the operand of a known instruction may be.
func mayOperand(m api.Module, f int, i api.Instr) bool {
	below := func(count int) bool { return 0 <= i.A && i.A < int64(count) }
	switch i.Op {
	case api.InConst:
		return true
	case api.InLocal:
		fallthrough
	case api.InSet:
		return below(Locals(m, f))
	case api.InGlobal:
		fallthrough
	case api.InSetGlobal:
		return below(len(m.Globals))
	case api.InLoad:
		fallthrough
	case api.InStore:
		return below(len(m.Arrays))
	case api.InJump:
		fallthrough
	case api.InZero:
		return below(len(m.Funcs[f].Code))
	case api.InCall:
		return below(len(m.Funcs))
	case api.InSend:
		return below(len(m.Channels))
	}
	return i.A == 0
}

// goesOn asks whether an instruction may go to the next address.
func goesOn(i api.Instr) bool { return i.Op != api.InJump && i.Op != api.InReturn }
