package asm_test

import (
	"math"
	"math/rand"
	"slices"
	"strconv"
	"strings"
	"testing"

	"louver/api"
	"louver/asm"
)

// example is the chapter's module.
func example() api.Module {
	return api.Module{
		Globals: []api.Label{5}, Arrays: []api.Array{{Len: 2}}, Channels: []api.Label{0},
		Funcs: []api.Function{{Params: []api.Label{1, 0}, Locals: 1, Stack: 2, Code: []api.Instr{{Op: api.InConst, A: -7}, {Op: api.InSet, A: 2}, {Op: api.InReturn}}}},
	}
}

const exampleText = "global {0,2}\narray 2 {}\nchannel {}\nfunc {} params {0} {} results locals 1 stack 2\n  const -7\n  set 2\n  return\nend\n"

func TestTextOfTheChapter(t *testing.T) { // P11.1
	wantText(t, example(), exampleText, api.OK)
	wantText(t, api.Module{}, "", api.OK)
	wantText(t, api.Module{Globals: []api.Label{}, Arrays: []api.Array{}, Channels: []api.Label{}, Funcs: []api.Function{}}, "", api.OK)
	wantText(t, api.Module{Arrays: []api.Array{{Len: -1}}}, "", api.ErrArg)
	wantText(t, api.Module{Funcs: []api.Function{{Code: []api.Instr{{Op: 18}}}}}, "", api.ErrArg)
}

func TestTextsOfOneThing(t *testing.T) { // P11.1
	full := api.Label(math.MaxUint64)
	for _, c := range []struct {
		m    api.Module
		want string
	}{
		{api.Module{Globals: []api.Label{0}}, "global {}\n"},
		{api.Module{Globals: []api.Label{1 << 63, 3}}, "global {63}\nglobal {0,1}\n"},
		{api.Module{Channels: []api.Label{1 << 10, 1}}, "channel {10}\nchannel {0}\n"},
		{api.Module{Arrays: []api.Array{{}, {Len: math.MaxInt, Label: 1<<9 | 1<<11}}}, "array 0 {}\narray 9223372036854775807 {9,11}\n"},
		{api.Module{Funcs: []api.Function{{}}}, "func {} params results locals 0 stack 0\nend\n"},
		{api.Module{Funcs: []api.Function{{}, {Level: 4}}}, "func {} params results locals 0 stack 0\nend\nfunc {2} params results locals 0 stack 0\nend\n"},
		{api.Module{Funcs: []api.Function{{Results: []api.Label{2, 0, 2}, Locals: math.MaxInt, Stack: math.MaxInt}}}, "func {} params results {1} {} {1} locals 9223372036854775807 stack 9223372036854775807\nend\n"},
		{api.Module{Funcs: []api.Function{{Level: 1, Params: []api.Label{2}, Results: []api.Label{4}, Locals: 8, Stack: 16}}}, "func {0} params {1} results {2} locals 8 stack 16\nend\n"},
		{api.Module{Globals: []api.Label{full}}, "global {" + strings.Join(strings.Fields("0 1 2 3 4 5 6 7 8 9 10 11 12 13 14 15 16 17 18 19 20 21 22 23 24 25 26 27 28 29 30 31 32 33 34 35 36 37 38 39 40 41 42 43 44 45 46 47 48 49 50 51 52 53 54 55 56 57 58 59 60 61 62 63"), ",") + "}\n"},
	} {
		wantText(t, c.m, c.want, api.OK)
		wantModule(t, c.want, c.m)
	}
}

func TestTextOfMadeModules(t *testing.T) { // P11.1, P11.4
	r := rand.New(rand.NewSource(1101))
	for range 3000 {
		m := someModule(r)
		want, _ := modelText(m)
		wantText(t, m, want, api.OK)
		wantModule(t, want, m)
	}
}

// TestTextBeyondLimits has more of each thing than a module may have elsewhere.
func TestTextBeyondLimits(t *testing.T) { // P11.1, P11.4
	r := rand.New(rand.NewSource(1102))
	m := api.Module{Arrays: make([]api.Array, 60), Funcs: make([]api.Function, 60)}
	for range 60 {
		m.Globals, m.Channels = append(m.Globals, someLabel(r)), append(m.Channels, someLabel(r))
	}
	f := &m.Funcs[59]
	f.Locals, f.Stack = api.MaxLocals+1, api.MaxStack+1
	for range 60 {
		f.Params, f.Results = append(f.Params, someLabel(r)), append(f.Results, someLabel(r))
	}
	for range api.MaxCode + 60 {
		f.Code = append(f.Code, someInstr(r))
	}
	want, _ := modelText(m)
	wantText(t, m, want, api.OK)
	wantModule(t, want, m)
}

// spoilt are modules with one thing that has no text, at different places.
func spoilt() []api.Module {
	var all []api.Module
	for _, n := range []int{-1, -2, math.MinInt, math.MinInt + 1} {
		all = append(all, api.Module{Arrays: []api.Array{{Len: n}}}, api.Module{Arrays: []api.Array{{}, {Len: 1}, {Len: n, Label: 1}}}, api.Module{Arrays: []api.Array{{Len: n}, {}}})
		for _, f := range []api.Function{{Locals: n}, {Stack: n}, {Locals: n, Stack: 1}, {Locals: 1, Stack: n}} {
			all = append(all, api.Module{Funcs: []api.Function{f}}, api.Module{Funcs: []api.Function{{}, {}, f}}, api.Module{Funcs: []api.Function{f, {}}}, api.Module{Globals: []api.Label{1}, Funcs: []api.Function{f}})
		}
	}
	for _, i := range []api.Instr{{}, {Op: 18}, {Op: 31}, {Op: 48}, {Op: -1}, {Op: 1<<32 + api.OpAdd}, {Op: api.OpAdd, A: 1}, {Op: api.InReturn, A: -1}, {Op: api.InSet, A: -1}, {Op: api.InSend, A: math.MinInt64}, {Op: api.InPop, A: math.MaxInt64}} {
		for _, code := range [][]api.Instr{{i}, {i, {Op: api.InReturn}}, {{Op: api.InNop}, {Op: api.InConst, A: -1}, i}} {
			all = append(all, api.Module{Funcs: []api.Function{{Code: code}}}, api.Module{Funcs: []api.Function{{}, {Code: code}}}, api.Module{Funcs: []api.Function{{Code: code}, {}}})
		}
	}
	return all
}

func TestErrArg(t *testing.T) { // P11.1
	for _, m := range spoilt() {
		wantText(t, m, "", api.ErrArg)
		// It comes ahead of ErrLong, wherever the text is too long.
		for _, more := range []int{1, 30000} {
			long := m
			long.Globals = make([]api.Label, more)
			wantText(t, long, "", api.ErrArg)
			long = m
			long.Funcs = append([]api.Function{{Params: make([]api.Label, more*4)}}, m.Funcs...)
			wantText(t, long, "", api.ErrArg)
		}
	}
}

// growing are sorts of modules that have so many things of one sort; each thing has size bytes of the text.
func growing() []growth {
	function := func(f api.Function) api.Module { return api.Module{Funcs: []api.Function{f}} }
	return []growth{
		{len("global {}\n"), func(count int) api.Module { return api.Module{Globals: make([]api.Label, count)} }},
		{len("channel {}\n"), func(count int) api.Module { return api.Module{Channels: make([]api.Label, count)} }},
		{len(" {}"), func(count int) api.Module { return function(api.Function{Params: make([]api.Label, count)}) }},
		{len(" {}"), func(count int) api.Module { return function(api.Function{Results: make([]api.Label, count)}) }},
		{len("  add\n"), func(count int) api.Module {
			return function(api.Function{Code: slices.Repeat([]api.Instr{{Op: api.OpAdd}}, count)})
		}},
	}
}

type growth struct {
	size int
	of   func(count int) api.Module
}

// sized is a module whose text has n bytes: what things of one sort leave of them goes to an array's length.
func (g growth) sized(n int) api.Module {
	left := n - unbounded(g.of(0)) - len("array 1 {}\n")
	m := g.of(left / g.size)
	digits := "1" + strings.Repeat("0", left%g.size)
	length, _ := strconv.Atoi(digits)
	m.Arrays = []api.Array{{Len: length}}
	return m
}

// unbounded is how long the text of a module is, were it not held to MaxImage.
func unbounded(m api.Module) int {
	size := 0
	for _, line := range modelLines(m) {
		size += len(line) + 1
	}
	return size
}

func TestErrLong(t *testing.T) { // P11.1
	for k, g := range growing() {
		for n := api.MaxImage - 12; n <= api.MaxImage+12; n++ {
			m := g.sized(n)
			if size := unbounded(m); size != n {
				t.Fatalf("%d: a text of %d bytes, want %d", k, size, n)
			}
			want, wantErr := modelText(m)
			if (n > api.MaxImage) != (wantErr == api.ErrLong) {
				t.Fatalf("%d: the model's text of %d bytes: %d", k, n, wantErr)
			}
			wantText(t, m, want, wantErr)
			if wantErr == api.OK {
				wantModule(t, want, m)
			}
		}
	}
}

// TestMuchTooLong has modules whose texts would be far greater than themselves.
func TestMuchTooLong(t *testing.T) { // P11.1
	many := make([]api.Label, 1<<20)
	for k := range many {
		many[k] = math.MaxUint64
	}
	for _, m := range []api.Module{
		{Globals: many}, {Channels: many}, {Arrays: make([]api.Array, 1<<20)}, {Funcs: make([]api.Function, 1<<18)},
		{Funcs: []api.Function{{Params: many}}}, {Funcs: []api.Function{{Results: many}}}, {Funcs: []api.Function{{Params: many[:1<<17], Results: many}}},
		{Funcs: []api.Function{{}, {Params: many}, {}}},
	} {
		wantText(t, m, "", api.ErrLong)
	}
}

// TestTooLongAtEachLine shifts a text to and fro, so that each sort of line is once the one that is too much, with others behind it.
func TestTooLongAtEachLine(t *testing.T) { // P11.1
	one := api.Function{Code: []api.Instr{{Op: api.InNop}, {Op: api.InConst, A: -1}}}
	period := unbounded(api.Module{Funcs: []api.Function{one}})
	for shift := range period {
		// Each array has a line of 11 bytes, of which the last one has more.
		m := api.Module{Funcs: slices.Repeat([]api.Function{one}, api.MaxImage/period+2), Arrays: make([]api.Array, 1+shift/11)}
		length, _ := strconv.Atoi("1" + strings.Repeat("0", shift%11))
		m.Arrays[len(m.Arrays)-1].Len = length
		wantText(t, m, "", api.ErrLong)
	}
	for _, m := range []api.Module{
		{Globals: make([]api.Label, 1<<15), Arrays: make([]api.Array, 1)}, {Arrays: make([]api.Array, 1<<15), Channels: make([]api.Label, 1)},
		{Channels: make([]api.Label, 1<<15), Funcs: make([]api.Function, 1)}, {Globals: make([]api.Label, 1<<15), Arrays: make([]api.Array, 1<<15), Channels: make([]api.Label, 1<<15), Funcs: make([]api.Function, 1<<15)},
	} {
		wantText(t, m, "", api.ErrLong)
	}
}

func TestLabels(t *testing.T) { // P11.3
	for l, want := range map[api.Label]string{0: "{}", 1: "{0}", 5: "{0,2}", 1 << 63: "{63}", 1<<63 | 1<<10 | 1<<9 | 1: "{0,9,10,63}"} {
		if got := asm.Label(l); got != want {
			t.Errorf("Label(%d) = %q, want %q", l, got, want)
		}
	}
	check := func(l api.Label) {
		if got, want := asm.Label(l), modelLabel(l); got != want {
			t.Errorf("Label(%d) = %q, want %q", l, got, want)
		}
		wantModule(t, "global "+asm.Label(l), api.Module{Globals: []api.Label{l}})
	}
	for a := range 64 {
		for b := range 64 {
			check(1<<a | 1<<b)
			check(^api.Label(1<<a | 1<<b))
		}
	}
	r := rand.New(rand.NewSource(1103))
	for range 2000 {
		check(someLabel(r))
	}
}

func TestLines(t *testing.T) { // P11.3
	numbers := []int64{0, 1, -1, 7, -7, 9, 10, 63, 64, 100, 255, 256, 1 << 31, 1 << 32, -1 << 31, -1 << 32, math.MaxInt64, math.MinInt64, math.MaxInt64 - 1, math.MinInt64 + 1}
	ops := []int{math.MinInt, math.MaxInt, 1<<32 + 1, 1<<32 + 32, 256 + 32, -32}
	for op := -2; op < 130; op++ {
		ops = append(ops, op)
	}
	for _, op := range ops {
		for _, a := range numbers {
			i := api.Instr{Op: op, A: a}
			want, may := "", modelMay(i)
			if may {
				want = modelLine(i)
			}
			if got, ok := asm.Line(i); got != want || ok != may {
				t.Errorf("Line(%v) = %q, %v, want %q, %v", i, got, ok, want, may)
			}
			if may {
				wantModule(t, plainHead+want+"\nend", api.Module{Funcs: []api.Function{{Code: []api.Instr{i}}}})
			}
		}
	}
	for _, c := range []struct {
		i    api.Instr
		want string
		ok   bool
	}{
		{api.Instr{Op: api.InConst, A: -7}, "const -7", true}, {api.Instr{Op: api.InConst, A: math.MinInt64}, "const -9223372036854775808", true},
		{api.Instr{Op: api.InSend}, "send 0", true}, {api.Instr{Op: api.InReturn}, "return", true}, {api.Instr{Op: api.InGlobal, A: 12}, "global 12", true},
		{api.Instr{Op: api.InReturn, A: 1}, "", false}, {api.Instr{Op: api.InLocal, A: -1}, "", false}, {api.Instr{Op: 18}, "", false}, {api.Instr{}, "", false},
	} {
		if got, ok := asm.Line(c.i); got != c.want || ok != c.ok {
			t.Errorf("Line(%v) = %q, %v, want %q, %v", c.i, got, ok, c.want, c.ok)
		}
	}
}
