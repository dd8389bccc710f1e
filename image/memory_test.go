package image_test

import (
	"bytes"
	"math/rand"
	"reflect"
	"slices"
	"sync"
	"testing"

	"louver/api"
	"louver/image"
)

// roomy is a copy of a list with room behind its end, in which a mark stands.
func roomy[T any](l []T, mark T) []T {
	return slices.Concat(l, slices.Repeat([]T{mark}, 4))[:len(l)]
}

// roomyModule is a copy of a module, all of whose lists have room.
func roomyModule(m api.Module) api.Module {
	m.Globals, m.Channels = roomy(m.Globals, 99), roomy(m.Channels, 99)
	m.Arrays, m.Funcs = roomy(m.Arrays, api.Array{Len: 99}), roomy(m.Funcs, api.Function{Locals: 99})
	for k := range m.Funcs {
		g := &m.Funcs[k]
		g.Params, g.Results, g.Code = roomy(g.Params, 99), roomy(g.Results, 99), roomy(g.Code, api.Instr{Op: 99})
	}
	return m
}

// wholeOf is a list with what stands in its room, in new memory.
func wholeOf[T any](l []T) []T { return slices.Clone(l[:cap(l)]) }

// wholeModule is a module with what stands in its lists' rooms, in new memory.
func wholeModule(m api.Module) api.Module {
	m.Globals, m.Arrays, m.Channels, m.Funcs = wholeOf(m.Globals), wholeOf(m.Arrays), wholeOf(m.Channels), wholeOf(m.Funcs)
	for k := range m.Funcs {
		g := &m.Funcs[k]
		g.Params, g.Results, g.Code = wholeOf(g.Params), wholeOf(g.Results), wholeOf(g.Code)
	}
	return m
}

func TestModulesStay(t *testing.T) { // P12.6
	r := rand.New(rand.NewSource(1209))
	check := func(m api.Module) {
		m = roomyModule(m)
		was := wholeModule(m)
		want, err := modelWrite(m)
		wantWrite(t, m, want, err)
		wantWrite(t, m, want, err)
		if !reflect.DeepEqual(wholeModule(m), was) {
			t.Errorf("changed: %.300v", was)
		}
	}
	for range 500 {
		check(someModule(r))
	}
	for _, m := range spoilt() {
		check(m)
	}
	for _, of := range growing() {
		check(of(api.MaxImage))
		check(of(api.MaxImage + 1))
		check(of(api.MaxImage + 1000))
	}
}

func TestBytesStay(t *testing.T) { // P12.6
	r := rand.New(rand.NewSource(1210))
	for range 2000 {
		body := modelBody(someModule(r))
		if r.Intn(2) == 0 {
			body = changed(r, body)
		}
		data := sealed(body)
		if r.Intn(4) == 0 {
			data = changed(r, data)
		}
		data = roomy(data, 99)
		was := wholeOf(data)
		want, wantErr := modelRead(data)
		m, err := image.Read(data)
		if !bytes.Equal(wholeOf(data), was) {
			t.Fatalf("Read changed % x to % x", was, wholeOf(data))
		}
		clear(data)
		if !same(m, want) || err != wantErr {
			t.Fatalf("Read of % x = %d, %+v, want %d, %+v, the bytes having been written over", was, err, m, wantErr, want)
		}
	}
}

func TestPartsStay(t *testing.T) { // P12.6
	parts := [][]byte{roomy([]byte{1, 2, 3}, 99), nil, roomy([]byte{4}, 99), roomy([]byte{}, 99)}
	was := [][]byte{wholeOf(parts[0]), nil, wholeOf(parts[2]), wholeOf(parts[3])}
	list := slices.Clone(parts)
	want := image.Sum([]byte{1, 2, 3, 4})
	wantSum(t, want, list...)
	for k := range parts {
		if !bytes.Equal(wholeOf(parts[k]), was[k]) || !bytes.Equal(list[k], parts[k]) {
			t.Errorf("part %d is changed: % x", k, wholeOf(parts[k]))
		}
	}
	wantSum(t, want, list...)
}

// TestImagesAreNew writes over what was answered, with its room.
func TestImagesAreNew(t *testing.T) { // P12.6
	first, _ := image.Write(example())
	second, _ := image.Write(example())
	first = first[:cap(first)]
	for k := range first {
		first[k] = 77
	}
	if want := sealed(exampleBody()); !bytes.Equal(second, want) {
		t.Errorf("an image is % x, another one having been written over", second)
	}
	wantWrite(t, example(), sealed(exampleBody()), api.OK)
}

// lists are all lists of a module; that of its functions is the first one.
func lists(m api.Module) []reflect.Value {
	all := []reflect.Value{reflect.ValueOf(m.Funcs), reflect.ValueOf(m.Globals), reflect.ValueOf(m.Arrays), reflect.ValueOf(m.Channels)}
	for _, f := range m.Funcs {
		all = append(all, reflect.ValueOf(f.Params), reflect.ValueOf(f.Results), reflect.ValueOf(f.Code))
	}
	return all
}

func sameList(a, b reflect.Value) bool {
	return a.Len() == 0 && b.Len() == 0 || reflect.DeepEqual(a.Interface(), b.Interface())
}

// TestModulesAreNew writes over each list that was answered, with its room: no other one changes, of that module or of another.
func TestModulesAreNew(t *testing.T) { // P12.6
	r := rand.New(rand.NewSource(1211))
	for range 300 {
		m := someModule(r)
		data, _ := modelWrite(m)
		before, _ := image.Read(data)
		want := lists(m)
		for k := range want {
			got, _ := image.Read(data)
			l := lists(got)
			l[k].Slice(0, l[k].Cap()).Clear()
			for j := range l {
				// The functions' own list tells the changed one too.
				if j != k && j > 0 && !sameList(l[j], want[j]) {
					t.Fatalf("lists %d and %d of one answer share memory: %v, want %v", k, j, l[j], want[j])
				}
			}
		}
		if !same(before, m) {
			t.Fatalf("an answer changed with another one: %+v, want %+v", before, m)
		}
		wantRead(t, data, m, api.OK)
	}
}

// TestNothingIsKept has right and wrong bytes by turns, which leave the reader at each place.
func TestNothingIsKept(t *testing.T) { // P12.6, P0.5
	body := exampleBody()
	for n := range body {
		wantRefused(t, sealed(body[:n]), api.ErrImage)
		wantRead(t, sealed(body), example(), api.OK)
		wantWrite(t, example(), sealed(body), api.OK)
	}
	for _, m := range spoilt() {
		wantWrite(t, m, nil, api.ErrArg)
		wantWrite(t, example(), sealed(body), api.OK)
	}
	m := example()
	m.Globals[0] = 4
	body[1] = 4
	wantWrite(t, m, sealed(body), api.OK)
	wantWrite(t, example(), sealed(exampleBody()), api.OK)
}

// TestCallsAtOnce makes calls from several sides at one time: each has its own answer.
func TestCallsAtOnce(t *testing.T) { // P0.5
	var workers sync.WaitGroup
	for seed := range int64(4) {
		workers.Go(func() {
			r := rand.New(rand.NewSource(1212 + seed))
			for range 300 {
				m := someModule(r)
				data, _ := modelWrite(m)
				if got, err := image.Write(m); err != api.OK || !bytes.Equal(got, data) {
					t.Errorf("Write of %+v = % x, %d", m, got, err)
				}
				if got, err := image.Read(data); err != api.OK || !same(got, m) {
					t.Errorf("Read of % x = %+v, %d", data, got, err)
				}
				other := sealed(changed(r, modelBody(m)))
				want, wantErr := modelRead(other)
				if got, err := image.Read(other); err != wantErr || !same(got, want) {
					t.Errorf("Read of % x = %+v, %d, want %d", other, got, err, wantErr)
				}
			}
		})
	}
	workers.Wait()
}
