package image_test

import (
	"bytes"
	"math"
	"math/rand"
	"slices"
	"testing"

	"louver/api"
	"louver/image"
)

func TestWriteOfTheChapter(t *testing.T) { // P12.1
	wantWrite(t, api.Module{}, summed([]byte{0x4c, 0x56, 0x52, 1, 0, 0, 0, 0}), api.OK)
	wantWrite(t, example(), summed(append([]byte{0x4c, 0x56, 0x52, 1}, exampleBody()...)), api.OK)
	wantWrite(t, api.Module{Arrays: []api.Array{{Len: -1}}}, nil, api.ErrArg)
	wantWrite(t, withCode(api.Instr{Op: 18}), nil, api.ErrArg)
	wantWrite(t, api.Module{Globals: make([]api.Label, 1<<18)}, nil, api.ErrLong)
}

// TestEmptyImage has the whole image written out, so that its sum's bytes are held against none that the test works out.
func TestEmptyImage(t *testing.T) { // P12.1, P12.3
	got, err := image.Write(api.Module{})
	if len(got) != 16 || err != api.OK {
		t.Fatalf("Write of an empty module = % x, %d", got, err)
	}
	sum := image.Sum(got[:8])
	for k, b := range got[8:] {
		if b != byte(sum>>(56-8*k)) {
			t.Errorf("byte %d of the sum = %x, the sum being %x", k, b, sum)
		}
	}
	want := []byte{'L', 'V', 'R', 1, 0, 0, 0, 0}
	if !bytes.Equal(got[:8], want) {
		t.Errorf("the image begins with % x, want % x", got[:8], want)
	}
}

func withCode(l ...api.Instr) api.Module {
	return api.Module{Funcs: []api.Function{{Code: l}}}
}

// TestPlaces has a number of its own at each place of the form.
func TestPlaces(t *testing.T) { // P12.1
	m := api.Module{
		Globals:  []api.Label{21, 22},
		Arrays:   []api.Array{{Len: 23, Label: 24}, {Len: 25, Label: 26}, {Len: 27, Label: 28}},
		Channels: []api.Label{29, 30, 31, 32, 33},
		Funcs: []api.Function{
			{Level: 41, Params: []api.Label{42, 43, 44}, Results: []api.Label{45, 46}, Locals: 47, Stack: 48, Code: []api.Instr{{Op: 33, A: 49}, {Op: 1}, {Op: 32, A: -2}, {Op: 47, A: 300}}},
			{Level: 51, Results: []api.Label{52}, Locals: 53, Stack: 54},
		},
	}
	want := []byte{
		2, 21, 22,
		3, 23, 24, 25, 26, 27, 28,
		5, 29, 30, 31, 32, 33,
		2,
		41, 3, 42, 43, 44, 2, 45, 46, 47, 48, 4, 33, 49, 1, 32, 0x7e, 47, 0xac, 2,
		51, 0, 1, 52, 53, 54, 0,
	}
	wantWrite(t, m, sealed(want), api.OK)
	wantRead(t, sealed(want), m, api.OK)
}

// TestGreatNumbers has the greatest number that may stand at each place.
func TestGreatNumbers(t *testing.T) { // P12.1, P12.4
	label, size := bytes.Repeat([]byte{0xff}, 10), bytes.Repeat([]byte{0xff}, 9)
	label[9], size[8] = 1, 0x7f
	least := append(bytes.Repeat([]byte{0x80}, 9), 0x7f)
	l := []api.Label{math.MaxUint64}
	m := api.Module{Globals: l, Arrays: []api.Array{{Len: math.MaxInt, Label: math.MaxUint64}}, Channels: l, Funcs: []api.Function{{
		Level: math.MaxUint64, Params: l, Results: l, Locals: math.MaxInt, Stack: math.MaxInt,
		Code: []api.Instr{{Op: api.InConst, A: math.MinInt64}, {Op: api.InCall, A: math.MaxInt64}},
	}}}
	want := slices.Concat([]byte{1}, label, []byte{1}, size, label, []byte{1}, label, []byte{1},
		label, []byte{1}, label, []byte{1}, label, size, size, []byte{2, 32}, least, []byte{45}, size)
	wantWrite(t, m, sealed(want), api.OK)
	wantRead(t, sealed(want), m, api.OK)
}

// oddInstrs may not be.
func oddInstrs() []api.Instr {
	var l []api.Instr
	for _, op := range []int{math.MinInt, -256, -1, 0, 18, 19, 30, 31, 48, 49, 255, 256, 257, 256 + 32, 1<<32 + 1, math.MaxInt} {
		l = append(l, api.Instr{Op: op}, api.Instr{Op: op, A: 1})
	}
	for op := range 50 {
		switch operandOf(op) {
		case noOperand:
			l = append(l, api.Instr{Op: op, A: 1}, api.Instr{Op: op, A: -1}, api.Instr{Op: op, A: math.MinInt64})
		case unsigned:
			l = append(l, api.Instr{Op: op, A: -1}, api.Instr{Op: op, A: math.MinInt64})
		}
	}
	return l
}

// spoilt are modules that have no form, for one thing each; the things around it are in order.
func spoilt() []api.Module {
	var all []api.Module
	with := func(change func(*api.Module)) {
		m := example()
		m.Arrays = append(m.Arrays, api.Array{Len: 5, Label: 1}, api.Array{})
		m.Funcs = append(m.Funcs, example().Funcs[0], example().Funcs[0])
		change(&m)
		all = append(all, m)
	}
	for _, n := range []int{-1, math.MinInt} {
		for k := range 3 {
			with(func(m *api.Module) { m.Arrays[k].Len = n })
			with(func(m *api.Module) { m.Funcs[k].Locals = n })
			with(func(m *api.Module) { m.Funcs[k].Stack = n })
		}
	}
	for _, i := range oddInstrs() {
		for k := range 6 {
			with(func(m *api.Module) { m.Funcs[k/2].Code[k%2] = i })
		}
	}
	return all
}

func TestWriteOfOddModules(t *testing.T) { // P12.1
	for _, m := range spoilt() {
		wantWrite(t, m, nil, api.ErrArg)
		// What has no form is told so, however long it is (P0.1).
		m.Globals = make([]api.Label, 1<<18)
		wantWrite(t, m, nil, api.ErrArg)
		m.Globals, m.Channels = nil, m.Globals
		wantWrite(t, m, nil, api.ErrArg)
		m.Channels = nil
		m.Funcs = slices.Concat([]api.Function{{Params: make([]api.Label, 1<<18)}}, m.Funcs)
		wantWrite(t, m, nil, api.ErrArg)
	}
}

// TestOddBehindLong has what spoils a module behind more things than an image has room for.
func TestOddBehindLong(t *testing.T) { // P12.1, P0.1
	long := 1 << 18
	arrays := make([]api.Array, long)
	wantWrite(t, api.Module{Arrays: arrays}, nil, api.ErrLong)
	arrays[long-1].Len = -1
	wantWrite(t, api.Module{Arrays: arrays}, nil, api.ErrArg)
	funcs := make([]api.Function, long)
	wantWrite(t, api.Module{Funcs: funcs}, nil, api.ErrLong)
	funcs[long-1].Locals = -1
	wantWrite(t, api.Module{Funcs: funcs}, nil, api.ErrArg)
	funcs[long-1] = api.Function{Stack: -1}
	wantWrite(t, api.Module{Funcs: funcs}, nil, api.ErrArg)
	code := slices.Repeat([]api.Instr{{Op: api.InNop}}, long)
	wantWrite(t, withCode(code...), nil, api.ErrLong)
	code[long-1].A = 1
	wantWrite(t, withCode(code...), nil, api.ErrArg)
}

// growing are modules whose form has a given number of bytes, each by a list of its own. No list's count is shorter than three bytes, at the sizes that are asked for.
func growing() map[string]func(size int) api.Module {
	labels := func(n int) []api.Label { return make([]api.Label, n) }
	ofFunction := func(size int, of func(n int) api.Function) api.Module {
		return api.Module{Funcs: []api.Function{of(size - 24)}}
	}
	return map[string]func(size int) api.Module{
		"globals":  func(size int) api.Module { return api.Module{Globals: labels(size - 18)} },
		"channels": func(size int) api.Module { return api.Module{Channels: labels(size - 18)} },
		"arrays": func(size int) api.Module {
			// Of an odd number of bytes one array's label has two.
			m := api.Module{Arrays: make([]api.Array, (size-18)/2)}
			m.Arrays[0].Label = api.Label(size % 2 * 128)
			return m
		},
		"functions": func(size int) api.Module {
			n := size - 18
			m := api.Module{Funcs: make([]api.Function, n/6)}
			m.Funcs[len(m.Funcs)-1].Params = labels(n % 6)
			return m
		},
		"params": func(size int) api.Module {
			return ofFunction(size, func(n int) api.Function { return api.Function{Params: labels(n)} })
		},
		"results": func(size int) api.Module {
			return ofFunction(size, func(n int) api.Function { return api.Function{Results: labels(n)} })
		},
		"code": func(size int) api.Module {
			return ofFunction(size, func(n int) api.Function {
				return api.Function{Code: slices.Repeat([]api.Instr{{Op: api.InNop}}, n)}
			})
		},
		"operands": func(size int) api.Module {
			return ofFunction(size, func(n int) api.Function {
				// A const of the greatest number has eleven bytes.
				l := slices.Repeat([]api.Instr{{Op: api.InConst, A: math.MaxInt64}}, 16000)
				return api.Function{Code: append(l, slices.Repeat([]api.Instr{{Op: api.OpAdd}}, n-16000*11)...)}
			})
		},
	}
}

func TestWriteOfMuch(t *testing.T) { // P12.1, P12.2, P12.4
	for name, of := range growing() {
		for size := api.MaxImage - 7; size <= api.MaxImage+7; size++ {
			m := of(size)
			got, err := image.Write(m)
			if size > api.MaxImage {
				if len(got) > 0 || err != api.ErrLong {
					t.Fatalf("Write of %s for %d bytes = %d bytes, %d", name, size, len(got), err)
				}
				continue
			}
			want, _ := modelWrite(m)
			if len(want) != size {
				t.Fatalf("the test's own module of %s for %d bytes has %d", name, size, len(want))
			}
			if err != api.OK || !bytes.Equal(got, want) {
				t.Fatalf("Write of %s for %d bytes = %d bytes, %d", name, size, len(got), err)
			}
			wantRead(t, got, m, api.OK)
		}
	}
}

// TestLongByMore has forms that are too long by their last numbers alone.
func TestLongByMore(t *testing.T) { // P12.1
	room := api.MaxImage - 24
	last := []api.Instr{{Op: api.InConst, A: math.MaxInt64}, {Op: api.InConst, A: math.MinInt64}, {Op: api.InSend, A: math.MaxInt64}}
	for _, i := range last {
		size := len(modelInstr(nil, i))
		for n := room - size - 2; n <= room; n++ {
			code := append(slices.Repeat([]api.Instr{{Op: api.InPop}}, n), i)
			want, err := modelWrite(withCode(code...))
			if (err == api.OK) != (n+size <= room) {
				t.Fatalf("the test's own module of %d instructions is answered %d", n+1, err)
			}
			wantWrite(t, withCode(code...), want, err)
		}
	}
}

func TestWriteByModel(t *testing.T) { // P12.1, P12.4
	r := rand.New(rand.NewSource(1201))
	for range 5000 {
		m := someModule(r)
		want, err := modelWrite(m)
		wantWrite(t, m, want, err)
		wantRead(t, want, m, api.OK)
	}
}

// TestNothingElseIsAsked has modules that no later layer would take.
func TestNothingElseIsAsked(t *testing.T) { // P12.1
	m := withCode(api.Instr{Op: api.InCall, A: 77}, api.Instr{Op: api.InJump, A: 1 << 40}, api.Instr{Op: api.InStore, A: 9}, api.Instr{Op: api.OpAdd})
	m.Funcs[0].Params, m.Funcs[0].Results = make([]api.Label, 300), make([]api.Label, 300)
	m.Funcs[0].Locals, m.Funcs[0].Stack = 1<<50, 1<<51
	m.Arrays = []api.Array{{Len: 1 << 52}}
	m.Globals, m.Channels = make([]api.Label, 3000), make([]api.Label, 3000)
	m.Funcs = append(m.Funcs, make([]api.Function, 3000)...)
	m.Funcs[7].Code = slices.Repeat([]api.Instr{{Op: api.InNop}}, 5000)
	want, _ := modelWrite(m)
	wantWrite(t, m, want, api.OK)
	wantRead(t, want, m, api.OK)
}
