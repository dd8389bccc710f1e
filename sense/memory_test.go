package sense_test

import (
	"math/rand"
	"reflect"
	"slices"
	"testing"

	"louver/api"
	"louver/sense"
)

// roomy is a copy of a list with room behind its end, in which a mark stands.
func roomy[T any](l []T, mark T) []T {
	return slices.Concat(l, slices.Repeat([]T{mark}, 4))[:len(l)]
}

func roomyMemory(m api.Memory) api.Memory {
	m.Globals, m.Arrays = roomy(m.Globals, 99), roomy(m.Arrays, []int64{99})
	for k := range m.Arrays {
		m.Arrays[k] = roomy(m.Arrays[k], 99)
	}
	return m
}

// roomySource is a copy of a source, all of whose lists have room.
func roomySource(s api.Source) api.Source {
	decl := api.Decl{Name: "mark"}
	s.Principals, s.Globals, s.Channels = roomy(s.Principals, "mark"), roomy(s.Globals, decl), roomy(s.Channels, decl)
	s.Arrays, s.Funcs = roomy(s.Arrays, api.ArrayDecl{Name: "mark"}), roomy(s.Funcs, api.FuncDecl{Name: "mark"})
	for f := range s.Funcs {
		d := &s.Funcs[f]
		d.Params, d.Vars, d.Results = roomy(d.Params, decl), roomy(d.Vars, decl), roomy(d.Results, 99)
		d.Body = roomy(d.Body, api.Stmt{Name: "mark"})
		for i := range d.Body {
			x := &d.Body[i]
			x.Targets, x.Exprs = roomy(x.Targets, "mark"), roomy(x.Exprs, []api.Term{{Name: "mark"}})
			for k := range x.Exprs {
				x.Exprs[k] = roomy(x.Exprs[k], api.Term{Name: "mark"})
			}
		}
	}
	return s
}

// eachList goes through all lists of a value, down to those within what stands in their rooms.
func eachList(v reflect.Value, do func(reflect.Value)) {
	switch v.Kind() {
	case reflect.Struct:
		for i := range v.NumField() {
			eachList(v.Field(i), do)
		}
	case reflect.Slice:
		all := v.Slice(0, v.Cap())
		do(all)
		for i := range all.Len() {
			eachList(all.Index(i), do)
		}
	}
}

// whole is a value whose lists have all that stands in their rooms, too, in lists of their own.
func whole(v reflect.Value) reflect.Value {
	c := reflect.New(v.Type()).Elem()
	switch v.Kind() {
	case reflect.Struct:
		for i := range v.NumField() {
			c.Field(i).Set(whole(v.Field(i)))
		}
	case reflect.Slice:
		for i := range v.Cap() {
			c.Set(reflect.Append(c, whole(v.Slice(0, v.Cap()).Index(i))))
		}
	default:
		c.Set(v)
	}
	return c
}

// snapshot keeps what values are now, for comparing.
func snapshot(l ...any) []any {
	var kept []any
	for _, v := range l {
		kept = append(kept, whole(reflect.ValueOf(v)).Interface())
	}
	return kept
}

func TestArgumentsStay(t *testing.T) { // P9.6
	eachInput(t, 98, 250, func(r *rand.Rand, s api.Source, in input, what string) {
		s, in.args, in.memory = roomySource(s), roomy(in.args, 99), roomyMemory(in.memory)
		d := s.Funcs[in.f]
		locals := roomy(someValues(r, len(d.Params)+len(d.Vars)), 99)
		was := snapshot(s, in.args, in.memory, locals)
		for _, limit := range []uint64{1000, uint64(r.Intn(100))} {
			in.run(s, limit)
		}
		for _, x := range d.Body {
			for _, e := range x.Exprs {
				sense.Eval(s, in.f, e, locals, in.memory)
			}
		}
		sense.Zero(s)
		if !reflect.DeepEqual(snapshot(s, in.args, in.memory, locals), was) {
			t.Errorf("changed: %s", what)
		}
	})
}

// fill alters all numbers of a list, those in its room too.
func fill(list reflect.Value) {
	if l, ok := list.Interface().([]int64); ok {
		for k := range l {
			l[k] = ^l[k]
		}
	}
}

// TestOutcomesAreNew changes what was answered, list by list: that changes neither what was handed in, nor another list, nor another answer.
func TestOutcomesAreNew(t *testing.T) { // P9.6, P0.3
	eachInput(t, 99, 250, func(r *rand.Rand, s api.Source, in input, what string) {
		first, second := in.run(s, 500), in.run(s, 500)
		was := snapshot(s, in.args, in.memory, second)
		var lists []reflect.Value
		for _, v := range []any{first, sense.Zero(s), sense.Zero(s)} {
			eachList(reflect.ValueOf(v), func(list reflect.Value) { lists = append(lists, list) })
		}
		for k, list := range lists {
			var others []any
			for i, other := range lists {
				if _, ok := other.Interface().([]int64); ok && i != k {
					others = append(others, other.Interface())
				}
			}
			before := snapshot(others...)
			fill(list)
			if !reflect.DeepEqual(snapshot(others...), before) {
				t.Errorf("two lists share memory: %s", what)
			}
		}
		if !reflect.DeepEqual(snapshot(s, in.args, in.memory, second), was) {
			t.Errorf("an answer shares memory with what was handed in or another one: %s", what)
		}
		wantOutcome(t, what, in.run(s, 500), second)
	})
}

// TestNothingIsKept asks of one source between two questions of another one, and of others in the same lists.
func TestNothingIsKept(t *testing.T) { // P9.5, P9.6, P0.5
	var last api.Source
	var lastIn input
	var lastTold string
	eachInput(t, 100, 250, func(r *rand.Rand, s api.Source, in input, what string) {
		now := told(in.run(s, 500))
		if lastTold != "" && told(lastIn.run(last, 500)) != lastTold {
			t.Errorf("not the same behind %s", what)
		}
		if told(in.run(s, 500)) != now {
			t.Errorf("not the same once more: %s", what)
		}
		last, lastIn, lastTold = s, in, now
	})
	s := parsed(t, "global x {}; channel c {}; func f {} (n {}) ({}) { send c n; x = x + n; return x; }")
	args, memory := []int64{1}, api.Memory{Globals: []int64{5}}
	for n := int64(1); n < 9; n++ {
		args[0], memory.Globals[0] = n, 10*n
		want := api.Outcome{Results: []int64{11 * n}, Memory: api.Memory{Globals: []int64{11 * n}}, Logs: rows([]int64{n}), Steps: 10}
		wantOutcome(t, "other numbers", sense.Run(s, 0, args, memory, plenty), want)
		s.Funcs[0].Body[0].Exprs[0][0].Name = []string{"n", "x"}[n%2]
		if n%2 == 1 {
			want.Logs[0][0] = 10 * n
		}
		wantOutcome(t, "another body", sense.Run(s, 0, args, memory, plenty), want)
		s.Funcs[0].Body[0].Exprs[0][0].Name = "n"
	}
}
