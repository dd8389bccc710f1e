package code

import "louver/api"

// Name: P10.1.
func Name(op int) string {
	if !isKnown(op) {
		return ""
	}
	return names()[op]
}

// ByName: P10.1.
func ByName(name string) (int, bool) {
	for op, known := range names() {
		// Numbers of no instruction have the empty text, which is no name.
		if known == name && isKnown(op) {
			return op, true
		}
	}
	return 0, false
}

func names() [api.InSend + 1]string {
	return [...]string{
		api.OpAdd: "add", api.OpSub: "sub", api.OpMul: "mul", api.OpDiv: "div", api.OpRem: "rem",
		api.OpAnd: "and", api.OpOr: "or", api.OpXor: "xor", api.OpShl: "shl", api.OpShr: "shr",
		api.OpEq: "eq", api.OpNe: "ne", api.OpLt: "lt", api.OpLe: "le",
		api.OpNeg: "neg", api.OpNot: "not", api.OpInv: "inv",
		api.InConst: "const",
		api.InLocal: "local", api.InSet: "set",
		api.InGlobal: "global", api.InSetGlobal: "setglobal",
		api.InLoad: "load", api.InStore: "store",
		api.InDup: "dup", api.InSwap: "swap", api.InPop: "pop", api.InNop: "nop",
		api.InJump: "jump", api.InZero: "zero",
		api.InCall: "call", api.InReturn: "return",
		api.InSend: "send",
	}
}
