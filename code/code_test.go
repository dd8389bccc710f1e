package code_test

import (
	"strings"
	"testing"

	"louver/api"
	"louver/code"
)

// TestNumbers holds the chapter's numbers against those by which api names them.
func TestNumbers(t *testing.T) { // P10.1
	named := map[string]int{
		"add": api.OpAdd, "sub": api.OpSub, "mul": api.OpMul, "div": api.OpDiv, "rem": api.OpRem, "and": api.OpAnd, "or": api.OpOr,
		"xor": api.OpXor, "shl": api.OpShl, "shr": api.OpShr, "eq": api.OpEq, "ne": api.OpNe, "lt": api.OpLt, "le": api.OpLe,
		"neg": api.OpNeg, "not": api.OpNot, "inv": api.OpInv, "const": api.InConst, "local": api.InLocal, "set": api.InSet,
		"global": api.InGlobal, "setglobal": api.InSetGlobal, "load": api.InLoad, "store": api.InStore, "dup": api.InDup,
		"swap": api.InSwap, "pop": api.InPop, "nop": api.InNop, "jump": api.InJump, "zero": api.InZero, "call": api.InCall,
		"return": api.InReturn, "send": api.InSend,
	}
	if len(named) != len(chapter()) {
		t.Fatalf("%d names, %d rows", len(named), len(chapter()))
	}
	for name, op := range named {
		if got := code.Name(op); got != name {
			t.Errorf("Name(%d) = %q, want %q", op, got, name)
		}
		if got, ok := code.ByName(name); got != op || !ok {
			t.Errorf("ByName(%q) = %d, %v, want %d", name, got, ok, op)
		}
	}
}

func TestTable(t *testing.T) { // P10.1, P10.4
	for _, c := range chapter() {
		if got := code.Name(c.op); got != c.name {
			t.Errorf("Name(%d) = %q, want %q", c.op, got, c.name)
		}
		if got, ok := code.ByName(c.name); got != c.op || !ok {
			t.Errorf("ByName(%q) = %d, %v, want %d", c.name, got, ok, c.op)
		}
		if got, ok := code.ByName(code.Name(c.op)); got != c.op || !ok {
			t.Errorf("ByName of Name of %d = %d, %v", c.op, got, ok)
		}
		if got := code.Operand(c.op); got != (c.operand != noOperand) {
			t.Errorf("Operand(%d) = %v", c.op, got)
		}
	}
}

func TestStrangers(t *testing.T) { // P10.1
	for _, op := range strangers() {
		if got := code.Name(op); got != "" {
			t.Errorf("Name(%d) = %q", op, got)
		}
		if code.Operand(op) {
			t.Errorf("Operand(%d) = true", op)
		}
		if code.May(api.Instr{Op: op}) {
			t.Errorf("May of %d = true", op)
		}
	}
}

// TestByNameOfOthers asks of texts that are near to a name, or a name elsewhere.
func TestByNameOfOthers(t *testing.T) { // P10.1
	texts := []string{
		"", " ", "\x00", "?", "a", "0", "1", "32", "+", "-", "==", "<", "_", "\u00e4dd", "add\xff", strings.Repeat("add", 1<<12),
		"jmp", "jz", "ret", "cmp", "lit", "push", "drop", "get", "gt", "ge", "gset", "setlocal", "getglobal", "loadglobal", "exit", "end",
		"func", "if", "while", "array", "channel", "principal", "var", "else", "params", "results", "locals", "stack",
		"OpAdd", "InConst", "Add", "ADD", "Const", "CONST",
	}
	for _, c := range chapter() {
		for _, d := range chapter() {
			texts = append(texts, c.name+d.name, c.name+" "+d.name)
		}
		texts = append(texts, c.name+" ", " "+c.name, c.name+"\n", "\t"+c.name, c.name+"\x00", c.name+"s", "x"+c.name, strings.ToUpper(c.name), strings.ToUpper(c.name[:1])+c.name[1:])
		for k := range c.name {
			texts = append(texts, c.name[:k], c.name[k:], c.name[:k]+c.name[k+1:])
		}
	}
	for _, text := range texts {
		want := 0
		for _, c := range chapter() {
			if c.name == text {
				want = c.op
			}
		}
		if got, ok := code.ByName(text); got != want || ok != (want != 0) {
			t.Errorf("ByName(%q) = %d, %v, want %d", text, got, ok, want)
		}
	}
}

func TestMay(t *testing.T) { // P10.1
	eachInstr(func(i api.Instr) {
		if got, want := code.May(i), modelMay(i); got != want {
			t.Errorf("May(%d %d) = %v, want %v", i.Op, i.A, got, want)
		}
	})
}

func TestMayEdges(t *testing.T) { // P10.1
	const least, greatest = -1 << 63, 1<<63 - 1
	for _, c := range []struct {
		op   int
		a    int64
		want bool
	}{
		{api.InConst, least, true}, {api.InConst, -1, true}, {api.InConst, 0, true}, {api.InConst, greatest, true},
		{api.InLocal, 0, true}, {api.InLocal, greatest, true}, {api.InLocal, -1, false}, {api.InLocal, least, false},
		{api.InJump, api.MaxCode + 1, true}, {api.InCall, api.MaxFuncs + 1, true}, {api.InSend, -1, false}, {api.InZero, -1, false},
		{api.OpAdd, 0, true}, {api.OpAdd, 1, false}, {api.OpAdd, -1, false}, {api.OpInv, least, false}, {api.OpLe, greatest, false},
		{api.InDup, 0, true}, {api.InDup, 1, false}, {api.InSwap, 1, false}, {api.InPop, 1, false}, {api.InNop, 1, false},
		{api.InReturn, 0, true}, {api.InReturn, 1, false}, {api.InReturn, -1, false}, {api.InReturn, 1 << 32, false},
		{0, 0, false}, {18, 0, false}, {31, 0, false}, {48, 0, false}, {-1, 0, false}, {1<<32 + api.InNop, 0, false},
	} {
		if got := code.May(api.Instr{Op: c.op, A: c.a}); got != c.want {
			t.Errorf("May(%d %d) = %v, want %v", c.op, c.a, got, c.want)
		}
	}
}
