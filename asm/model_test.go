package asm_test

import (
	"fmt"
	"math"
	"math/big"
	"math/rand"
	"reflect"
	"regexp"
	"slices"
	"strings"
	"testing"

	"louver/api"
	"louver/asm"
)

// What an instruction's operand may be, as layer 10's table tells it.
const (
	noOperand = iota
	anyNumber
	fromZero
)

// names is layer 10's table, with its numbers written out.
var names = map[string]struct{ op, operand int }{
	"add": {1, noOperand}, "sub": {2, noOperand}, "mul": {3, noOperand}, "div": {4, noOperand}, "rem": {5, noOperand},
	"and": {6, noOperand}, "or": {7, noOperand}, "xor": {8, noOperand}, "shl": {9, noOperand}, "shr": {10, noOperand},
	"eq": {11, noOperand}, "ne": {12, noOperand}, "lt": {13, noOperand}, "le": {14, noOperand},
	"neg": {15, noOperand}, "not": {16, noOperand}, "inv": {17, noOperand},
	"const": {32, anyNumber}, "local": {33, fromZero}, "set": {34, fromZero}, "global": {35, fromZero}, "setglobal": {36, fromZero},
	"load": {37, fromZero}, "store": {38, fromZero}, "dup": {39, noOperand}, "swap": {40, noOperand}, "pop": {41, noOperand},
	"nop": {42, noOperand}, "jump": {43, fromZero}, "zero": {44, fromZero}, "call": {45, fromZero}, "return": {46, noOperand},
	"send": {47, fromZero},
}

// sortedNames has all names in one order, so that what is made by a fixed seed is the same each time.
var sortedNames = func() []string {
	var all []string
	for name := range names {
		all = append(all, name)
	}
	slices.Sort(all)
	return all
}()

func nameOf(op int) (string, bool) {
	for _, name := range sortedNames {
		if names[name].op == op {
			return name, true
		}
	}
	return "", false
}

func modelMay(i api.Instr) bool {
	name, ok := nameOf(i.Op)
	switch {
	case !ok:
		return false
	case names[name].operand == noOperand:
		return i.A == 0
	}
	return names[name].operand == anyNumber || i.A >= 0
}

func modelLine(i api.Instr) string {
	name, _ := nameOf(i.Op)
	if names[name].operand == noOperand {
		return name
	}
	return fmt.Sprintf("%s %d", name, i.A)
}

func modelLabel(l api.Label) string {
	var all []string
	for k := range 64 {
		if l>>k&1 == 1 {
			all = append(all, fmt.Sprint(k))
		}
	}
	return "{" + strings.Join(all, ",") + "}"
}

func modelLabels(l []api.Label) string {
	var b strings.Builder
	for _, x := range l {
		b.WriteString(" " + modelLabel(x))
	}
	return b.String()
}

// modelLines are the lines of a module that has a text, in the order of the chapter.
func modelLines(m api.Module) []string {
	var all []string
	for _, l := range m.Globals {
		all = append(all, "global "+modelLabel(l))
	}
	for _, a := range m.Arrays {
		all = append(all, fmt.Sprintf("array %d %s", a.Len, modelLabel(a.Label)))
	}
	for _, l := range m.Channels {
		all = append(all, "channel "+modelLabel(l))
	}
	for _, f := range m.Funcs {
		all = append(all, fmt.Sprintf("func %s params%s results%s locals %d stack %d", modelLabel(f.Level), modelLabels(f.Params), modelLabels(f.Results), f.Locals, f.Stack))
		for _, i := range f.Code {
			all = append(all, "  "+modelLine(i))
		}
		all = append(all, "end")
	}
	return all
}

func modelText(m api.Module) (string, api.Errno) {
	for _, a := range m.Arrays {
		if a.Len < 0 {
			return "", api.ErrArg
		}
	}
	for _, f := range m.Funcs {
		if f.Locals < 0 || f.Stack < 0 || slices.ContainsFunc(f.Code, func(i api.Instr) bool { return !modelMay(i) }) {
			return "", api.ErrArg
		}
	}
	text := strings.Join(append(modelLines(m), ""), "\n")
	if len(text) > api.MaxImage {
		return "", api.ErrLong
	}
	return text, api.OK
}

// The chapter's table as regular expressions.
const (
	numberForm = `(?:0|-?[1-9][0-9]*)`
	labelForm  = `\{(?:[0-9]+(?:,[0-9]+)*)?\}`
)

func lineForm(words string) *regexp.Regexp {
	return regexp.MustCompile(`^[\t ]*` + strings.ReplaceAll(words, " ", `[\t ]+`) + `[\t ]*$`)
}

var (
	passedForm  = regexp.MustCompile(`^[\t ]*(?:;(?s:.)*)?$`)
	globalForm  = lineForm(`global (` + labelForm + `)`)
	channelForm = lineForm(`channel (` + labelForm + `)`)
	arrayForm   = lineForm(`array (` + numberForm + `) (` + labelForm + `)`)
	headForm    = lineForm(`func (` + labelForm + `) params((?: ` + labelForm + `)*) results((?: ` + labelForm + `)*) locals (` + numberForm + `) stack (` + numberForm + `)`)
	endForm     = lineForm(`end`)
	bareForm    = lineForm(`([a-z]+)`)
	operandForm = lineForm(`([a-z]+) (` + numberForm + `)`)
	numbersForm = regexp.MustCompile(`[0-9]+`)
	labelsForm  = regexp.MustCompile(labelForm)
)

// modelReader reads lines by their forms; wrong is set by the first thing of a line that is not as the forms' words ask.
type modelReader struct {
	m      api.Module
	inside bool
	wrong  bool
}

func (r *modelReader) number(word string, least int64) int64 {
	n, _ := new(big.Int).SetString(word, 10)
	if !n.IsInt64() || n.Int64() < least {
		r.wrong = true
		return 0
	}
	return n.Int64()
}

func (r *modelReader) label(word string) api.Label {
	var l api.Label
	last := int64(-1)
	for _, x := range numbersForm.FindAllString(word, -1) {
		n := r.number(x, 0)
		if n > 63 || n <= last || len(x) > 1 && x[0] == '0' {
			r.wrong = true
			return 0
		}
		l |= 1 << n
		last = n
	}
	return l
}

func (r *modelReader) labels(words string) []api.Label {
	var all []api.Label
	for _, x := range labelsForm.FindAllString(words, -1) {
		all = append(all, r.label(x))
	}
	return all
}

// take takes a line; false, if it is wrong.
func (r *modelReader) take(line string) bool {
	if passedForm.MatchString(line) {
		return true
	}
	if r.inside {
		return r.within(line)
	}
	m := &r.m
	if x := globalForm.FindStringSubmatch(line); x != nil {
		m.Globals = append(m.Globals, r.label(x[1]))
	} else if x := channelForm.FindStringSubmatch(line); x != nil {
		m.Channels = append(m.Channels, r.label(x[1]))
	} else if x := arrayForm.FindStringSubmatch(line); x != nil {
		m.Arrays = append(m.Arrays, api.Array{Len: int(r.number(x[1], 0)), Label: r.label(x[2])})
	} else if x := headForm.FindStringSubmatch(line); x != nil {
		m.Funcs = append(m.Funcs, api.Function{Level: r.label(x[1]), Params: r.labels(x[2]), Results: r.labels(x[3]), Locals: int(r.number(x[4], 0)), Stack: int(r.number(x[5], 0))})
		r.inside = true
	} else {
		return false
	}
	return !r.wrong
}

func (r *modelReader) within(line string) bool {
	if endForm.MatchString(line) {
		r.inside = false
		return true
	}
	f := &r.m.Funcs[len(r.m.Funcs)-1]
	if x := bareForm.FindStringSubmatch(line); x != nil {
		c, ok := names[x[1]]
		f.Code = append(f.Code, api.Instr{Op: c.op})
		return ok && c.operand == noOperand
	}
	x := operandForm.FindStringSubmatch(line)
	if x == nil {
		return false
	}
	c, ok := names[x[1]]
	least := int64(0)
	if c.operand == anyNumber {
		least = math.MinInt64
	}
	f.Code = append(f.Code, api.Instr{Op: c.op, A: r.number(x[2], least)})
	return ok && c.operand != noOperand && !r.wrong
}

func modelParse(text string) (api.Module, int, api.Errno) {
	if len(text) > 262144 {
		return api.Module{}, 0, api.ErrLong
	}
	r := &modelReader{}
	all := strings.Split(text, "\n")
	for k, line := range all {
		if !r.take(line) {
			return api.Module{}, k + 1, api.ErrAsm
		}
	}
	if r.inside {
		return api.Module{}, len(all), api.ErrAsm
	}
	return r.m, 0, api.OK
}

// whole is a module without empty lists, which are the same as none.
func whole(m api.Module) api.Module {
	none(&m.Globals)
	none(&m.Arrays)
	none(&m.Channels)
	m.Funcs = slices.Clone(m.Funcs)
	none(&m.Funcs)
	for k := range m.Funcs {
		none(&m.Funcs[k].Params)
		none(&m.Funcs[k].Results)
		none(&m.Funcs[k].Code)
	}
	return m
}

func none[T any](l *[]T) {
	if len(*l) == 0 {
		*l = nil
	}
}

func same(a, b api.Module) bool { return reflect.DeepEqual(whole(a), whole(b)) }

// brief tells a text in a failure's line, though it be long.
func brief(text string) string {
	if len(text) > 300 {
		return text[:300] + " .."
	}
	return text
}

func wantText(t *testing.T, m api.Module, want string, err api.Errno) {
	t.Helper()
	if got, gotErr := asm.Text(m); got != want || gotErr != err {
		t.Errorf("Text = %d, %q, want %d, %q", gotErr, brief(got), err, brief(want))
	}
}

// wantModule wants this module of a text.
func wantModule(t *testing.T, text string, want api.Module) {
	t.Helper()
	if m, line, err := asm.Parse(text); !same(m, want) || line != 0 || err != api.OK {
		t.Errorf("Parse of %q = %d at %d, %+v, want %+v", brief(text), err, line, m, want)
	}
}

// wantWrong wants a wrong line of a text, and beside it no module.
func wantWrong(t *testing.T, text string, want int) {
	t.Helper()
	if m, line, err := asm.Parse(text); !same(m, api.Module{}) || line != want || err != api.ErrAsm {
		t.Errorf("Parse of %q = %d at %d, %+v, want ErrAsm at %d", brief(text), err, line, m, want)
	}
}

// wantModel wants of a text what the model answers.
func wantModel(t *testing.T, text string) {
	t.Helper()
	if m, line, err := modelParse(text); err == api.ErrAsm {
		wantWrong(t, text, line)
	} else {
		wantModule(t, text, m)
	}
}

func someLabel(r *rand.Rand) api.Label {
	switch r.Intn(4) {
	case 0:
		return 0
	case 1:
		return 1 << r.Intn(64)
	case 2:
		return api.Label(r.Uint64() & r.Uint64() & r.Uint64())
	}
	return api.Label(r.Uint64())
}

func someLabels(r *rand.Rand, most int) []api.Label {
	var all []api.Label
	for range r.Intn(most + 1) {
		all = append(all, someLabel(r))
	}
	return all
}

// someSize is a number from 0 on, small ones more often.
func someSize(r *rand.Rand) int { return int(r.Int63() >> r.Intn(64)) }

func someInstr(r *rand.Rand) api.Instr {
	c := names[sortedNames[r.Intn(len(sortedNames))]]
	switch c.operand {
	case anyNumber:
		return api.Instr{Op: c.op, A: int64(r.Uint64()) >> r.Intn(64)}
	case fromZero:
		return api.Instr{Op: c.op, A: int64(someSize(r))}
	}
	return api.Instr{Op: c.op}
}

// someModule is a module that has a text; it need not be in order otherwise.
func someModule(r *rand.Rand) api.Module {
	m := api.Module{Globals: someLabels(r, 3), Channels: someLabels(r, 3)}
	for range r.Intn(3) {
		m.Arrays = append(m.Arrays, api.Array{Len: someSize(r), Label: someLabel(r)})
	}
	for range r.Intn(4) {
		f := api.Function{Level: someLabel(r), Params: someLabels(r, 3), Results: someLabels(r, 3), Locals: someSize(r), Stack: someSize(r)}
		for range r.Intn(7) {
			f.Code = append(f.Code, someInstr(r))
		}
		m.Funcs = append(m.Funcs, f)
	}
	return m
}
