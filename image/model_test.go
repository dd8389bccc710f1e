package image_test

import (
	"bytes"
	"encoding/binary"
	"hash/fnv"
	"math/big"
	"math/rand"
	"reflect"
	"testing"

	"louver/api"
	"louver/image"
)

// What stands behind an instruction's number, as layer 10's table tells it.
const (
	unknown = iota
	noOperand
	signed
	unsigned
)

func operandOf(op int) int {
	switch op {
	case 32:
		return signed
	case 33, 34, 35, 36, 37, 38, 43, 44, 45, 47:
		return unsigned
	}
	if op >= 1 && op <= 17 || op >= 39 && op <= 42 || op == 46 {
		return noOperand
	}
	return unknown
}

func modelMay(i api.Instr) bool {
	switch operandOf(i.Op) {
	case noOperand:
		return i.A == 0
	case unsigned:
		return i.A >= 0
	}
	return operandOf(i.Op) == signed
}

// modelSigned takes as many groups as the number's bits and its sign want.
func modelSigned(n int64) []byte {
	bits := big.NewInt(n).BitLen()
	if n < 0 {
		bits = new(big.Int).Not(big.NewInt(n)).BitLen()
	}
	var b []byte
	for k := range bits/7 + 1 {
		b = append(b, byte(n>>(7*k))|128)
	}
	b[len(b)-1] &= 127
	return b
}

func modelInstr(b []byte, i api.Instr) []byte {
	b = append(b, byte(i.Op))
	switch operandOf(i.Op) {
	case signed:
		return append(b, modelSigned(i.A)...)
	case unsigned:
		return binary.AppendUvarint(b, uint64(i.A))
	}
	return b
}

func modelLabels(b []byte, labels []api.Label) []byte {
	b = binary.AppendUvarint(b, uint64(len(labels)))
	for _, l := range labels {
		b = binary.AppendUvarint(b, uint64(l))
	}
	return b
}

// modelBody is a module's form between its first four bytes and its sum.
func modelBody(m api.Module) []byte {
	b := modelLabels(nil, m.Globals)
	b = binary.AppendUvarint(b, uint64(len(m.Arrays)))
	for _, a := range m.Arrays {
		b = binary.AppendUvarint(b, uint64(a.Len))
		b = binary.AppendUvarint(b, uint64(a.Label))
	}
	b = modelLabels(b, m.Channels)
	b = binary.AppendUvarint(b, uint64(len(m.Funcs)))
	for _, f := range m.Funcs {
		b = binary.AppendUvarint(b, uint64(f.Level))
		b = modelLabels(b, f.Params)
		b = modelLabels(b, f.Results)
		b = binary.AppendUvarint(b, uint64(f.Locals))
		b = binary.AppendUvarint(b, uint64(f.Stack))
		b = binary.AppendUvarint(b, uint64(len(f.Code)))
		for _, i := range f.Code {
			b = modelInstr(b, i)
		}
	}
	return b
}

// sealed puts the first four bytes ahead, and the sum behind.
func sealed(body []byte) []byte {
	return summed(append([]byte{0x4c, 0x56, 0x52, 1}, body...))
}

func summed(b []byte) []byte {
	h := fnv.New64a()
	h.Write(b)
	return binary.BigEndian.AppendUint64(bytes.Clone(b), h.Sum64())
}

func modelWrite(m api.Module) ([]byte, api.Errno) {
	for _, a := range m.Arrays {
		if a.Len < 0 {
			return nil, api.ErrArg
		}
	}
	for _, f := range m.Funcs {
		if f.Locals < 0 || f.Stack < 0 {
			return nil, api.ErrArg
		}
		for _, i := range f.Code {
			if !modelMay(i) {
				return nil, api.ErrArg
			}
		}
	}
	form := sealed(modelBody(m))
	if len(form) > 1<<18 {
		return nil, api.ErrLong
	}
	return form, api.OK
}

// loose reads a body without looking at whether its numbers are as short as can be; ok is false, once something is missing.
type loose struct {
	b  []byte
	ok bool
}

// group takes one number's bits, and how many groups they came in.
func (l *loose) group() (uint64, int) {
	var n uint64
	for k := 0; k < len(l.b); k++ {
		n |= uint64(l.b[k]&127) << (7 * k)
		if l.b[k] < 128 {
			l.b = l.b[k+1:]
			return n, k + 1
		}
	}
	l.ok, l.b = false, nil
	return 0, 0
}

func (l *loose) number() uint64 {
	n, _ := l.group()
	return n
}

func (l *loose) labels() []api.Label {
	var all []api.Label
	for n := l.number(); n > 0 && l.ok; n-- {
		all = append(all, api.Label(l.number()))
	}
	return all
}

func (l *loose) instr() api.Instr {
	if len(l.b) == 0 {
		l.ok = false
		return api.Instr{}
	}
	i := api.Instr{Op: int(l.b[0])}
	l.b = l.b[1:]
	switch operandOf(i.Op) {
	case signed:
		n, groups := l.group()
		if shift := 64 - 7*groups; shift > 0 && shift < 64 {
			n = uint64(int64(n<<shift) >> shift)
		}
		i.A = int64(n)
	case unsigned:
		i.A = int64(l.number())
	}
	return i
}

func (l *loose) module() api.Module {
	var m api.Module
	m.Globals = l.labels()
	for n := l.number(); n > 0 && l.ok; n-- {
		m.Arrays = append(m.Arrays, api.Array{Len: int(l.number()), Label: api.Label(l.number())})
	}
	m.Channels = l.labels()
	for n := l.number(); n > 0 && l.ok; n-- {
		f := api.Function{Level: api.Label(l.number())}
		f.Params, f.Results = l.labels(), l.labels()
		f.Locals, f.Stack = int(l.number()), int(l.number())
		for n := l.number(); n > 0 && l.ok; n-- {
			f.Code = append(f.Code, l.instr())
		}
		m.Funcs = append(m.Funcs, f)
	}
	return m
}

// modelRead takes bytes for a module's form just if what they tell, written, is the same bytes.
func modelRead(data []byte) (api.Module, api.Errno) {
	switch {
	case len(data) > 262144:
		return api.Module{}, api.ErrLong
	case len(data) < 12 || !bytes.HasPrefix(data, []byte{0x4c, 0x56, 0x52, 1}):
		return api.Module{}, api.ErrImage
	case !bytes.Equal(summed(data[:len(data)-8]), data):
		return api.Module{}, api.ErrSum
	}
	l := loose{data[4 : len(data)-8], true}
	m := l.module()
	if form, err := modelWrite(m); !l.ok || err != api.OK || !bytes.Equal(form, data) {
		return api.Module{}, api.ErrImage
	}
	return m, api.OK
}

// plain is a list, or nil if it is empty (P0.4).
func plain[T any](l []T) []T {
	if len(l) == 0 {
		return nil
	}
	return l
}

func same(a, b api.Module) bool { return reflect.DeepEqual(plainModule(a), plainModule(b)) }

func plainModule(m api.Module) api.Module {
	var funcs []api.Function
	for _, f := range m.Funcs {
		f.Params, f.Results, f.Code = plain(f.Params), plain(f.Results), plain(f.Code)
		funcs = append(funcs, f)
	}
	return api.Module{Globals: plain(m.Globals), Arrays: plain(m.Arrays), Channels: plain(m.Channels), Funcs: funcs}
}

// someNumber is near to an edge of the groups, or any number; it has 63 bits.
func someNumber(r *rand.Rand) uint64 {
	if r.Intn(2) == 0 {
		return uint64(r.Intn(4))
	}
	return (uint64(1)<<r.Intn(64) + uint64(r.Intn(3)) - 1) &^ (1 << 63)
}

func someLabel(r *rand.Rand) api.Label {
	if r.Intn(4) == 0 {
		return api.Label(r.Uint64() >> r.Intn(64))
	}
	return api.Label(someNumber(r)<<1 | someNumber(r)&1)
}

func someInstr(r *rand.Rand) api.Instr {
	i := api.Instr{Op: 1 + r.Intn(17)}
	if r.Intn(3) > 0 {
		i.Op = 32 + r.Intn(16)
	}
	switch operandOf(i.Op) {
	case signed:
		i.A = int64(someNumber(r))
		if r.Intn(2) == 0 {
			i.A = -i.A - 1
		}
	case unsigned:
		i.A = int64(someNumber(r))
	}
	return i
}

func some[T any](r *rand.Rand, most int, one func(*rand.Rand) T) []T {
	l := []T{}
	for range r.Intn(most + 1) {
		l = append(l, one(r))
	}
	return l
}

func someModule(r *rand.Rand) api.Module {
	return api.Module{
		Globals:  some(r, 3, someLabel),
		Arrays:   some(r, 3, func(r *rand.Rand) api.Array { return api.Array{Len: int(someNumber(r)), Label: someLabel(r)} }),
		Channels: some(r, 3, someLabel),
		Funcs: some(r, 3, func(r *rand.Rand) api.Function {
			return api.Function{
				Level: someLabel(r), Params: some(r, 3, someLabel), Results: some(r, 3, someLabel),
				Locals: int(someNumber(r)), Stack: int(someNumber(r)), Code: some(r, 6, someInstr),
			}
		}),
	}
}

// example is the chapter's module.
func example() api.Module {
	code := []api.Instr{{Op: api.InConst, A: 7}, {Op: api.InReturn}}
	return api.Module{
		Globals: []api.Label{3},
		Arrays:  []api.Array{{Len: 2}},
		Funcs:   []api.Function{{Level: 1, Results: []api.Label{0}, Locals: 2, Stack: 4, Code: code}},
	}
}

// exampleBody is what the chapter tells of that module's image.
func exampleBody() []byte {
	return []byte{1, 3, 1, 2, 0, 0, 1, 1, 0, 1, 0, 2, 4, 2, 0x20, 7, 0x2e}
}

func wantWrite(t *testing.T, m api.Module, want []byte, wantErr api.Errno) {
	t.Helper()
	got, err := image.Write(m)
	if !bytes.Equal(got, want) || err != wantErr {
		t.Fatalf("Write of %.300v = %d bytes % .200x, %d, want %d bytes % .200x, %d", m, len(got), got, err, len(want), want, wantErr)
	}
	if err != api.OK && len(got) > 0 {
		t.Fatalf("Write of %.300v answers bytes beside the error %d", m, err)
	}
}

func wantRead(t *testing.T, data []byte, want api.Module, wantErr api.Errno) {
	t.Helper()
	got, err := image.Read(data)
	if !same(got, want) || err != wantErr {
		t.Fatalf("Read of %d bytes % .300x = %.300v, %d, want %.300v, %d", len(data), data, got, err, want, wantErr)
	}
}

func wantRefused(t *testing.T, data []byte, want api.Errno) {
	t.Helper()
	wantRead(t, data, api.Module{}, want)
}

// wantModel holds a reading against the chapter told once more.
func wantModel(t *testing.T, data []byte) api.Errno {
	t.Helper()
	m, err := modelRead(data)
	wantRead(t, data, m, err)
	return err
}
