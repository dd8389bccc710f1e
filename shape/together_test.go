package shape_test

import (
	"math/rand"
	"slices"
	"testing"

	"louver/api"
	"louver/graph"
	"louver/shape"
)

// edges are where an address leads to, by layer 14's words, targets that are no address and the one behind the last among them.
func edges(code []api.Instr, a int) []int64 {
	switch i := code[a]; i.Op {
	case api.InJump:
		return []int64{i.A}
	case api.InZero:
		return []int64{int64(a) + 1, i.A}
	case api.InReturn:
		return nil // to X alone
	}
	return []int64{int64(a) + 1}
}

// TestEdgesLeadSomewhere walks modules without a fault, some of them changed ones.
func TestEdgesLeadSomewhere(t *testing.T) { // P13.4
	r := rand.New(rand.NewSource(1307))
	checked, seen := 0, map[int]int{}
	for range 6000 {
		m := made(r, r.Intn(4))
		if shape.Check(m) != (api.Fault{}) {
			continue
		}
		checked++
		for f, g := range m.Funcs {
			if len(g.Code) == 0 {
				t.Fatalf("function %d has no address: %s", f, told(m))
			}
			for a := range g.Code {
				seen[g.Code[a].Op]++
				if len(graph.Next(g, a)) == 0 {
					t.Fatalf("address %d of function %d has no edge: %s", a, f, told(m))
				}
				for _, to := range edges(g.Code, a) {
					if to < 0 || to >= int64(len(g.Code)) {
						t.Fatalf("address %d of function %d leads to %d: %s", a, f, to, told(m))
					}
				}
			}
		}
	}
	for _, n := range known() {
		if seen[n] < 100 {
			t.Errorf("%d is seen %d times only", n, seen[n])
		}
	}
	if checked < 2000 {
		t.Errorf("%d modules without a fault only", checked)
	}
}

// more are modules with one thing more, or nil, if there is no room for it.
func more(m api.Module, f int) map[string]*api.Module {
	all := map[string]*api.Module{"a global": nil, "a channel": nil, "an array": nil, "a nop ahead": nil}
	add := func(what string, room bool, change func(m *api.Module)) {
		if greater := copyOf(m); room {
			change(&greater)
			all[what] = &greater
		}
	}
	add("a global", len(m.Globals) < 32, func(m *api.Module) { m.Globals = append(m.Globals, 5) })
	add("a channel", len(m.Channels) < 16, func(m *api.Module) { m.Channels = append(m.Channels, 5) })
	add("an array", len(m.Arrays) < 16, func(m *api.Module) { m.Arrays = append(m.Arrays, api.Array{Len: 1, Label: 5}) })
	if f < len(m.Funcs) {
		add("a nop ahead", len(m.Funcs[f].Code) < 2048, func(m *api.Module) { m.Funcs[f].Code = behindNop(m.Funcs[f].Code) })
	}
	return all
}

func behindNop(code []api.Instr) []api.Instr {
	moved := []api.Instr{op(api.InNop)}
	for _, i := range code {
		if i.Op == api.InJump || i.Op == api.InZero {
			i.A++
		}
		moved = append(moved, i)
	}
	return moved
}

func TestMoreOfAModule(t *testing.T) { // P13.5
	r := rand.New(rand.NewSource(1308))
	count, full := map[string]int{}, map[string]int{}
	for range 4000 {
		m := made(r, r.Intn(3))
		if shape.Check(m) != (api.Fault{}) {
			continue
		}
		for what, greater := range more(m, r.Intn(len(m.Funcs)+1)) {
			if greater == nil {
				full[what]++
				continue
			}
			count[what]++
			wantFault(t, what, *greater, api.Fault{})
		}
	}
	for _, what := range []string{"a global", "a channel", "an array", "a nop ahead"} {
		if count[what] < 500 || full[what] < 30 {
			t.Errorf("%s: %d with room, %d without", what, count[what], full[what])
		}
	}
}

// TestMoreTillThereIsNoRoom adds one by one.
func TestMoreTillThereIsNoRoom(t *testing.T) { // P13.5
	for what, room := range map[string]int{"a global": 32 - 3, "a channel": 16 - 4, "an array": 16 - 2, "a nop ahead": 2048 - 7} {
		m := table()
		m.Funcs[1].Code[0], m.Funcs[1].Code[6] = with(api.InZero, 6), with(api.InJump, 0)
		for range room {
			m = *more(m, 1)[what]
			wantFault(t, what, m, api.Fault{})
		}
		if more(m, 1)[what] != nil {
			t.Fatalf("%s: there is room", what)
		}
		if what == "a nop ahead" {
			m.Funcs[1].Code = behindNop(m.Funcs[1].Code)
			wantFault(t, what, m, fault(api.ErrMany, 1, -1))
		}
	}
}

// TestNopAheadOfFaults moves the address of a fault, and changes nothing else of it.
func TestNopAheadOfFaults(t *testing.T) { // P13.1, P13.5
	r := rand.New(rand.NewSource(1309))
	moved := 0
	for range 4000 {
		m := made(r, 1+r.Intn(2))
		was := shape.Check(m)
		if was.Func < 0 || was.At < 0 || was.Err == api.OK || len(m.Funcs[was.Func].Code) == 2048 {
			continue
		}
		odd := func(i api.Instr) bool { return i.A >= 1<<62 || i.A == -1 }
		if slices.ContainsFunc(m.Funcs[was.Func].Code, odd) {
			continue // a target that one more makes another sort of
		}
		moved++
		m.Funcs[was.Func].Code = behindNop(m.Funcs[was.Func].Code)
		wantFault(t, "a nop ahead of a fault", m, fault(was.Err, was.Func, was.At+1))
	}
	if moved < 500 {
		t.Errorf("%d faults only", moved)
	}
}
