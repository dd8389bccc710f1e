package code_test

import (
	"math"
	"math/rand"
	"slices"

	"louver/api"
)

// What an operand must find, as the chapter's table tells it.
const (
	noOperand = iota
	anyNumber
	aLocal
	aGlobal
	anArray
	anAddress
	aFunction
	aChannel
)

// Counts that hang on a function's tables.
const (
	calleesParams = -1 - iota
	calleesResults
	ownResults
)

// row is a row of the chapter's table.
type row struct {
	name         string
	op           int
	pops, pushes int
	operand      int
}

// chapter is the chapter's table, with its numbers written out.
func chapter() []row {
	return []row{
		{"add", 1, 2, 1, noOperand}, {"sub", 2, 2, 1, noOperand}, {"mul", 3, 2, 1, noOperand}, {"div", 4, 2, 1, noOperand},
		{"rem", 5, 2, 1, noOperand}, {"and", 6, 2, 1, noOperand}, {"or", 7, 2, 1, noOperand}, {"xor", 8, 2, 1, noOperand},
		{"shl", 9, 2, 1, noOperand}, {"shr", 10, 2, 1, noOperand}, {"eq", 11, 2, 1, noOperand}, {"ne", 12, 2, 1, noOperand},
		{"lt", 13, 2, 1, noOperand}, {"le", 14, 2, 1, noOperand},
		{"neg", 15, 1, 1, noOperand}, {"not", 16, 1, 1, noOperand}, {"inv", 17, 1, 1, noOperand},
		{"const", 32, 0, 1, anyNumber},
		{"local", 33, 0, 1, aLocal}, {"set", 34, 1, 0, aLocal},
		{"global", 35, 0, 1, aGlobal}, {"setglobal", 36, 1, 0, aGlobal},
		{"load", 37, 1, 1, anArray}, {"store", 38, 2, 0, anArray},
		{"dup", 39, 1, 2, noOperand}, {"swap", 40, 2, 2, noOperand}, {"pop", 41, 1, 0, noOperand}, {"nop", 42, 0, 0, noOperand},
		{"jump", 43, 0, 0, anAddress}, {"zero", 44, 1, 0, anAddress},
		{"call", 45, calleesParams, calleesResults, aFunction},
		{"return", 46, ownResults, 0, noOperand},
		{"send", 47, 1, 0, aChannel},
	}
}

// byOp is the chapter's table by its Ops, since all models ask it at each turn.
var byOp = func() map[int]row {
	all := map[int]row{}
	for _, c := range chapter() {
		all[c.op] = c
	}
	return all
}()

// rowOf is the table's row of an Op; false, if there is none.
func rowOf(op int) (row, bool) {
	c, ok := byOp[op]
	return c, ok
}

// strangers are numbers of no instruction: those beside the table's, and such as come to one when they are cut to fewer bits or lose their sign.
func strangers() []int {
	l := []int{0, -1, -2, -32, -47, 127, 128, 255, 256, 257, 256 + 32, 1<<16 + 32, 1<<32 + 1, 1<<32 + 33, math.MinInt, math.MinInt + 1, math.MinInt + 42, math.MaxInt, math.MaxInt - 1}
	for op := 18; op < 32; op++ {
		l = append(l, op)
	}
	for op := 48; op < 128; op++ {
		l = append(l, op)
	}
	return l
}

// numbers are those next to where a byte, a form or a kind of numbers ends, below 0 too, and others by a fixed seed, so that a failure comes again.
func numbers() []int64 {
	var l []int64
	for k := range 63 {
		for _, off := range []int64{-2, -1, 0, 1, 2} {
			l = append(l, 1<<k+off, -(1<<k + off))
		}
	}
	l = append(l, math.MinInt64, math.MinInt64+1, math.MinInt64+2, math.MaxInt64, math.MaxInt64-1, 0, 5, 200, 300)
	r := rand.New(rand.NewSource(1001))
	for range 200 {
		n := int64(r.Uint64()) >> r.Intn(64)
		l = append(l, n, -n)
	}
	slices.Sort(l)
	return slices.Compact(l)
}

// modelMay: may an instruction be, by the table?
func modelMay(i api.Instr) bool {
	c, ok := rowOf(i.Op)
	switch {
	case !ok:
		return false
	case c.operand == noOperand:
		return i.A == 0
	case c.operand == anyNumber:
		return true
	}
	return i.A >= 0
}

// eachInstr goes through instructions of all Ops and strangers, with all numbers as their operands.
func eachInstr(do func(i api.Instr)) {
	ops := strangers()
	for _, c := range chapter() {
		ops = append(ops, c.op)
	}
	for _, op := range ops {
		for _, a := range numbers() {
			do(api.Instr{Op: op, A: a})
		}
	}
}
