package asm_test

import (
	"math/rand"
	"reflect"
	"slices"
	"sync"
	"testing"
	"unsafe"

	"louver/api"
	"louver/asm"
)

// roomy is a copy of a list with room behind its end, in which a mark stands.
func roomy[T any](l []T, mark T) []T {
	return slices.Concat(l, slices.Repeat([]T{mark}, 4))[:len(l)]
}

// roomyModule is a copy of a module, all of whose lists have room.
func roomyModule(m api.Module) api.Module {
	m.Globals, m.Channels = roomy(m.Globals, 99), roomy(m.Channels, 99)
	m.Arrays, m.Funcs = roomy(m.Arrays, api.Array{Len: 99}), roomy(m.Funcs, api.Function{Locals: 99})
	for k := range m.Funcs {
		g := &m.Funcs[k]
		g.Params, g.Results, g.Code = roomy(g.Params, 99), roomy(g.Results, 99), roomy(g.Code, api.Instr{Op: 99})
	}
	return m
}

// wholeOf is a list with what stands in its room, in new memory.
func wholeOf[T any](l []T) []T { return slices.Clone(l[:cap(l)]) }

// wholeModule is a module with what stands in its lists' rooms, in new memory.
func wholeModule(m api.Module) api.Module {
	m.Globals, m.Arrays, m.Channels, m.Funcs = wholeOf(m.Globals), wholeOf(m.Arrays), wholeOf(m.Channels), wholeOf(m.Funcs)
	for k := range m.Funcs {
		g := &m.Funcs[k]
		g.Params, g.Results, g.Code = wholeOf(g.Params), wholeOf(g.Results), wholeOf(g.Code)
	}
	return m
}

func TestModulesStay(t *testing.T) { // P11.6
	r := rand.New(rand.NewSource(1107))
	check := func(m api.Module) {
		m = roomyModule(m)
		was := wholeModule(m)
		want, err := modelText(m)
		wantText(t, m, want, err)
		wantText(t, m, want, err)
		if !reflect.DeepEqual(wholeModule(m), was) {
			t.Errorf("changed: %+v", was)
		}
	}
	for range 500 {
		check(someModule(r))
	}
	for _, m := range spoilt() {
		check(m)
	}
	for _, g := range growing() {
		check(g.of(1 << 17))
	}
}

// own is a string over bytes that the test may change afterwards, as no string of the language's own can be.
func own(text string) (string, []byte) {
	b := append([]byte(text), 0)
	return unsafe.String(&b[0], len(text)), b[:len(text)]
}

func TestTextsStay(t *testing.T) { // P11.6
	r := rand.New(rand.NewSource(1108))
	for range 1000 {
		made, _ := modelText(someModule(r))
		made = loosened(r, made)
		if r.Intn(2) == 0 {
			made = changed(r, made)
		}
		text, b := own(made)
		m, line, err := asm.Parse(text)
		if string(b) != made {
			t.Fatalf("Parse changed %q to %q", made, b)
		}
		clear(b)
		want, wantLine, wantErr := modelParse(made)
		if !same(m, want) || line != wantLine || err != wantErr {
			t.Fatalf("Parse of %q = %d at %d, %+v, want %d at %d, %+v, the text having been written over", made, err, line, m, wantErr, wantLine, want)
		}
	}
}

// TestTextIsNew writes over what was answered.
func TestTextIsNew(t *testing.T) { // P11.6
	overwrite := func(text string) {
		b := unsafe.Slice(unsafe.StringData(text), len(text))
		for k := range b {
			b[k] = 'z'
		}
	}
	first, _ := asm.Text(example())
	second, _ := asm.Text(example())
	overwrite(first)
	third, _ := asm.Text(example())
	if second != exampleText || third != exampleText {
		t.Errorf("Text = %q and %q, one before having been written over", second, third)
	}
	label := asm.Label(5)
	other := asm.Label(5)
	overwrite(label)
	if third := asm.Label(5); other != "{0,2}" || third != "{0,2}" {
		t.Errorf("Label = %q and %q, one before having been written over", other, third)
	}
	i := api.Instr{Op: api.InConst, A: -7}
	line, _ := asm.Line(i)
	same, _ := asm.Line(i)
	overwrite(line)
	if third, _ := asm.Line(i); same != "const -7" || third != "const -7" {
		t.Errorf("Line = %q and %q, one before having been written over", same, third)
	}
}

// lists are all lists of a module; that of its functions is the first one.
func lists(m api.Module) []reflect.Value {
	all := []reflect.Value{reflect.ValueOf(m.Funcs), reflect.ValueOf(m.Globals), reflect.ValueOf(m.Arrays), reflect.ValueOf(m.Channels)}
	for _, f := range m.Funcs {
		all = append(all, reflect.ValueOf(f.Params), reflect.ValueOf(f.Results), reflect.ValueOf(f.Code))
	}
	return all
}

func sameList(a, b reflect.Value) bool {
	return a.Len() == 0 && b.Len() == 0 || reflect.DeepEqual(a.Interface(), b.Interface())
}

// TestModulesAreNew writes over each list that was answered, with its room: no other one changes, of that module or of another.
func TestModulesAreNew(t *testing.T) { // P11.6
	r := rand.New(rand.NewSource(1109))
	for range 300 {
		m := someModule(r)
		text, _ := modelText(m)
		before, _, _ := asm.Parse(text)
		want := lists(m)
		for k := range want {
			got, _, _ := asm.Parse(text)
			l := lists(got)
			l[k].Slice(0, l[k].Cap()).Clear()
			for j := range l {
				// The functions' own list tells the changed one too.
				if j != k && j > 0 && !sameList(l[j], want[j]) {
					t.Fatalf("lists %d and %d of one answer share memory: %v, want %v", k, j, l[j], want[j])
				}
			}
		}
		if !same(before, m) {
			t.Fatalf("an answer changed with another one: %+v, want %+v", before, m)
		}
		wantModule(t, text, m)
	}
}

// TestNothingIsKept has right and wrong texts by turns, which leave the reader at each place of a line.
func TestNothingIsKept(t *testing.T) { // P11.6, P0.5
	for _, line := range wrongLines() {
		asm.Parse(plainHead + "nop\n" + line)
		wantWrong(t, "return", 1)
		wantModule(t, "global {1}", api.Module{Globals: []api.Label{2}})
		wantText(t, api.Module{Globals: []api.Label{2}}, "global {1}\n", api.OK)
	}
	m := example()
	wantText(t, m, exampleText, api.OK)
	m.Globals[0], m.Funcs[0].Code[1].A = 2, 9
	want, _ := modelText(m)
	wantText(t, m, want, api.OK)
	m.Funcs[0].Code[1].A = -9
	wantText(t, m, "", api.ErrArg)
	wantText(t, example(), exampleText, api.OK)
}

// TestCallsAtOnce makes calls from several sides at one time: each has its own answer.
func TestCallsAtOnce(t *testing.T) { // P0.5
	var workers sync.WaitGroup
	for seed := range int64(4) {
		workers.Go(func() {
			r := rand.New(rand.NewSource(1110 + seed))
			for range 200 {
				m := someModule(r)
				text, _ := modelText(m)
				wantText(t, m, text, api.OK)
				wantModel(t, changed(r, text))
			}
		})
	}
	workers.Wait()
}
