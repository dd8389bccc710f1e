package shape_test

import (
	"math"
	"slices"

	"louver/api"
)

// What an operand may be, as the chapter tells it.
const (
	unknown = iota // of no known instruction
	noughtAlone
	anyNumber
	aLocal
	aGlobal
	anArray
	anAddress
	aFunction
	aChannel
)

// sortOf is the chapter's list of operands, with DOC.md's instructions by their numbers.
func sortOf(op int) int {
	switch op {
	case 1, 2, 3, 4, 5, 6, 7, 8, 9, 10, 11, 12, 13, 14, 15, 16, 17, 39, 40, 41, 42, 46:
		return noughtAlone
	case 32:
		return anyNumber
	case 33, 34:
		return aLocal
	case 35, 36:
		return aGlobal
	case 37, 38:
		return anArray
	case 43, 44:
		return anAddress
	case 45:
		return aFunction
	case 47:
		return aChannel
	}
	return unknown
}

// known are the numbers of all known instructions.
func known() []int {
	var l []int
	for op := 1; op <= 17; op++ {
		l = append(l, op)
	}
	for op := 32; op <= 47; op++ {
		l = append(l, op)
	}
	return l
}

// strangers are numbers of no instruction: those beside the known ones, and such as come to one when they are cut to fewer bits or lose their sign.
func strangers() []int {
	l := []int{0, -1, -2, -17, -32, -47, 99, 127, 128, 255, 256, 257, 256 + 32, 1<<16 + 32, 1<<32 + 1, 1<<32 + 46, math.MinInt, math.MinInt + 1, math.MinInt + 46, math.MaxInt, math.MaxInt - 1}
	for op := 18; op <= 31; op++ {
		l = append(l, op)
	}
	for op := 48; op <= 64; op++ {
		l = append(l, op)
	}
	return l
}

func modelLocals(m api.Module, f int) int {
	if f < 0 || f >= len(m.Funcs) {
		return 0
	}
	n := len(m.Funcs[f].Params)
	for k := 0; k < 32 && k < m.Funcs[f].Locals; k++ {
		n++
	}
	return n
}

// places is how many numbers from 0 on an operand of a sort may be.
func places(m api.Module, f, sort int) int {
	switch sort {
	case noughtAlone:
		return 1
	case aLocal:
		return modelLocals(m, f)
	case aGlobal:
		return len(m.Globals)
	case anArray:
		return len(m.Arrays)
	case anAddress:
		return len(m.Funcs[f].Code)
	case aFunction:
		return len(m.Funcs)
	case aChannel:
		return len(m.Channels)
	}
	return 0
}

func modelInstr(m api.Module, f int, i api.Instr) api.Errno {
	sort := sortOf(i.Op)
	if f < 0 || f >= len(m.Funcs) {
		return api.ErrArg
	}
	if sort == unknown {
		return api.ErrCode
	}
	if sort == anyNumber {
		return api.OK
	}
	// Without a sign a number below 0 is above all others.
	if uint64(i.A) >= uint64(places(m, f, sort)) {
		return api.ErrShape
	}
	return api.OK
}

// placed is a fault with its place among all that there are: its function, its address and its rank there.
type placed struct {
	fault api.Fault
	place [3]int
}

// modelFaults are all faults of a module, in no order.
func modelFaults(m api.Module) []placed {
	var all []placed
	add := func(wrong bool, err api.Errno, f, at int, place ...int) {
		if wrong {
			all = append(all, placed{api.Fault{Err: err, Func: f, At: at}, [3]int(place)})
		}
	}
	for f, g := range m.Funcs {
		for a, i := range g.Code {
			err := modelInstr(m, f, i)
			add(err == api.ErrCode, err, f, a, f, a, 0)
			add(err == api.ErrShape, err, f, a, f, a, 1)
			add(a == len(g.Code)-1 && i.Op != 43 && i.Op != 46, api.ErrFall, f, a, f, a, 2)
		}
		add(len(g.Params) > 8 || len(g.Results) > 4 || len(g.Code) > 2048 || g.Locals > 32 || g.Stack > 64, api.ErrMany, f, -1, f, -1, 0)
		add(g.Locals < 0 || g.Stack < 0, api.ErrShape, f, -1, f, -1, 1)
		add(len(g.Code) == 0, api.ErrEmpty, f, -1, f, -1, 2)
	}
	for k, a := range m.Arrays {
		add(a.Len < 1 || a.Len > 256, api.ErrShape, -1, k, -1, k, 0)
	}
	add(len(m.Globals) > 32 || len(m.Arrays) > 16 || len(m.Channels) > 16 || len(m.Funcs) > 32, api.ErrMany, -1, 0, -1, -1, 0)
	return all
}

// modelCheck is the first one of all faults.
func modelCheck(m api.Module) api.Fault {
	all := modelFaults(m)
	if len(all) == 0 {
		return api.Fault{}
	}
	first := slices.MinFunc(all, func(a, b placed) int { return slices.Compare(a.place[:], b.place[:]) })
	return first.fault
}
