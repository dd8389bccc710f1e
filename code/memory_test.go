package code_test

import (
	"bytes"
	"math/rand"
	"reflect"
	"slices"
	"sync"
	"testing"

	"louver/api"
	"louver/code"
)

// roomy is a copy of a list with room behind its end, in which a mark stands.
func roomy[T any](l []T, mark T) []T {
	return slices.Concat(l, slices.Repeat([]T{mark}, 4))[:len(l)]
}

// roomyModule is a copy of a module, all of whose lists have room.
func roomyModule(m api.Module) api.Module {
	m.Globals, m.Channels = roomy(m.Globals, 99), roomy(m.Channels, 99)
	m.Arrays, m.Funcs = roomy(m.Arrays, api.Array{Len: 99}), roomy(m.Funcs, api.Function{Locals: 99})
	for k := range m.Funcs {
		g := &m.Funcs[k]
		g.Params, g.Results, g.Code = roomy(g.Params, 99), roomy(g.Results, 99), roomy(g.Code, api.Instr{Op: 99})
	}
	return m
}

// wholeOf is a list with what stands in its room, in new memory.
func wholeOf[T any](l []T) []T { return slices.Clone(l[:cap(l)]) }

// wholeModule is a module with what stands in its lists' rooms, in new memory.
func wholeModule(m api.Module) api.Module {
	m.Globals, m.Arrays, m.Channels, m.Funcs = wholeOf(m.Globals), wholeOf(m.Arrays), wholeOf(m.Channels), wholeOf(m.Funcs)
	for k := range m.Funcs {
		g := &m.Funcs[k]
		g.Params, g.Results, g.Code = wholeOf(g.Params), wholeOf(g.Results), wholeOf(g.Code)
	}
	return m
}

func TestModulesStay(t *testing.T) { // P10.6
	eachModule(t, 1007, 150, func(r *rand.Rand, m api.Module, l []question) {
		m = roomyModule(m)
		was := wholeModule(m)
		for _, q := range l {
			code.Effect(m, q.f, q.i)
		}
		if !reflect.DeepEqual(wholeModule(m), was) {
			t.Errorf("changed: %+v", was)
		}
	})
}

func TestBytesStay(t *testing.T) { // P10.6
	r := rand.New(rand.NewSource(1008))
	for range 3000 {
		b := make([]byte, r.Intn(14))
		r.Read(b)
		if len(b) > 0 && r.Intn(2) == 0 {
			b[0] = byte(32 + r.Intn(16))
		}
		b = roomy(b, 0x99)
		was := wholeOf(b)
		i, size, err := code.Get(b)
		if !bytes.Equal(b[:cap(b)], was) {
			t.Fatalf("Get changed % x to % x", was, b[:cap(b)])
		}
		// What stands in the room is not of the list.
		wantGet(t, was[:len(b):len(b)], i, size, err)
	}
}

// TestPutIsNew writes over what was answered, with its room: no other answer changes, before or behind it.
func TestPutIsNew(t *testing.T) { // P10.6
	var all []api.Instr
	eachInstr(func(i api.Instr) {
		if modelMay(i) {
			all = append(all, i)
		}
	})
	for _, i := range all {
		first, second := code.Put(i), code.Put(i)
		for k := range first[:cap(first)] {
			first[:cap(first)][k] ^= 0xff
		}
		third := code.Put(i)
		if want := modelPut(i); !bytes.Equal(second, want) || !bytes.Equal(third, want) {
			t.Fatalf("Put(%v) = % x and % x, want % x, one before being written over", i, second, third, want)
		}
	}
	// And answers of different instructions.
	var rows [][]byte
	for _, i := range all {
		rows = append(rows, code.Put(i))
	}
	for k, i := range all {
		if want := modelPut(i); !bytes.Equal(rows[k], want) {
			t.Fatalf("Put(%v) = % x, want % x, others having been written over", i, rows[k], want)
		}
		whole := rows[k][:cap(rows[k])]
		for at := range whole {
			whole[at] = 0x99
		}
	}
}

// TestNothingIsKept asks of other bytes and other modules in the same lists.
func TestNothingIsKept(t *testing.T) { // P10.6, P0.5
	b := []byte{0x20, 0x7f, 0x05}
	wantGet(t, b, api.Instr{Op: api.InConst, A: -1}, 2, api.OK)
	b[1] = 0x05
	wantGet(t, b, api.Instr{Op: api.InConst, A: 5}, 2, api.OK)
	b[0] = 0x2a
	wantGet(t, b, api.Instr{Op: api.InNop}, 1, api.OK)
	b[0] = 0x12
	wantGet(t, b, api.Instr{}, 0, api.ErrCode)
	b[0] = 0x01
	wantGet(t, b, api.Instr{Op: api.OpAdd}, 1, api.OK)

	m := example()
	call, back, send := api.Instr{Op: api.InCall}, api.Instr{Op: api.InReturn}, api.Instr{Op: api.InSend}
	wantEffect(t, m, 0, call, told{1, 2, true})
	wantEffect(t, m, 1, back, told{1, 0, true})
	m.Funcs[0], m.Funcs[1] = m.Funcs[1], m.Funcs[0]
	wantEffect(t, m, 0, call, told{0, 1, true})
	wantEffect(t, m, 1, back, told{2, 0, true})
	m.Funcs[0].Params = make([]api.Label, 8)
	wantEffect(t, m, 0, call, told{8, 1, true})
	wantEffect(t, m, 0, send, none)
	m.Channels = make([]api.Label, 1)
	wantEffect(t, m, 0, send, told{1, 0, true})
	m.Funcs = nil
	wantEffect(t, m, 0, send, none)
	wantEffect(t, m, 0, call, none)
	wantEffect(t, example(), 0, call, told{1, 2, true})
}

// TestCallsAtOnce makes calls from several sides at one time: each has its own answer.
func TestCallsAtOnce(t *testing.T) { // P0.5
	var workers sync.WaitGroup
	for seed := range int64(4) {
		workers.Go(func() {
			r := rand.New(rand.NewSource(1100 + seed))
			for range 20 {
				m := someModule(r)
				for _, q := range questions(r, m) {
					wantEffect(t, m, q.f, q.i, modelEffect(m, q.f, q.i))
				}
			}
			for op := range 64 {
				i := api.Instr{Op: op, A: int64(r.Intn(2))}
				if got, want := code.Put(i), modelPut(i); !bytes.Equal(got, want) {
					t.Errorf("Put(%v) = % x, want % x", i, got, want)
				}
				if c, _ := rowOf(op); code.Name(op) != c.name {
					t.Errorf("Name(%d) = %q, want %q", op, code.Name(op), c.name)
				}
			}
		})
	}
	workers.Wait()
}
