package image_test

import (
	"bytes"
	"encoding/binary"
	"math/rand"
	"slices"
	"testing"

	"louver/api"
	"louver/image"
)

func TestReadOfTheChapter(t *testing.T) { // P12.2
	empty, _ := image.Write(api.Module{})
	wantRead(t, empty, api.Module{}, api.OK)
	wantRead(t, sealed(exampleBody()), example(), api.OK)
	wantRefused(t, empty[:15], api.ErrSum)
	wantRefused(t, nil, api.ErrImage)
	wantRefused(t, append([]byte{0x4c, 0x56, 0x52, 1}, make([]byte, 8)...), api.ErrSum)
}

// TestReadOfFewBytes has all beginnings of an image, and the shortest row that has a sum.
func TestReadOfFewBytes(t *testing.T) { // P12.2
	data := sealed(exampleBody())
	for n := range data {
		want := api.ErrSum
		if n < 12 {
			want = api.ErrImage
		}
		wantRefused(t, data[:n], want)
	}
	wantRefused(t, sealed(nil), api.ErrImage)
	for n := range 12 {
		wantRefused(t, summed(make([]byte, n)), api.ErrImage)
	}
	// Three bytes of the head alone, with a sum that is theirs.
	wantRefused(t, summed([]byte{0x4c, 0x56, 0x52}), api.ErrImage)
}

// TestReadOfOtherHeads has right sums behind heads that are not the one.
func TestReadOfOtherHeads(t *testing.T) { // P12.2, P0.1
	for k, right := range []byte{0x4c, 0x56, 0x52, 1} {
		for b := range 256 {
			data := append([]byte{0x4c, 0x56, 0x52, 1}, exampleBody()...)
			data[k] = byte(b)
			if byte(b) == right {
				wantRead(t, summed(data), example(), api.OK)
				continue
			}
			wantRefused(t, summed(data), api.ErrImage)
			wantRefused(t, append(data, 1, 2, 3, 4, 5, 6, 7, 8), api.ErrImage)
		}
	}
}

// TestReadOfMuch has the edge of MaxImage bytes, whatever they are.
func TestReadOfMuch(t *testing.T) { // P12.2, P0.1
	for _, size := range []int{api.MaxImage + 1, api.MaxImage + 2, api.MaxImage * 2} {
		wantRefused(t, make([]byte, size), api.ErrLong)
		wantRefused(t, slices.Concat(sealed(exampleBody()), make([]byte, size))[:size], api.ErrLong)
		// This one would be a module's form, were it not so long.
		m := growing()["globals"](size)
		wantRefused(t, sealed(modelBody(m)), api.ErrLong)
	}
	wantRefused(t, make([]byte, api.MaxImage), api.ErrImage)
	wantRefused(t, append([]byte{0x4c, 0x56, 0x52, 1}, make([]byte, api.MaxImage-4)...), api.ErrSum)
	wantRefused(t, sealed(make([]byte, api.MaxImage-12)), api.ErrImage)
}

// TestReadOfCutBodies has the sum made anew: what is missing, or too much, is told of the form.
func TestReadOfCutBodies(t *testing.T) { // P12.2
	r := rand.New(rand.NewSource(1202))
	for range 200 {
		body := modelBody(someModule(r))
		for n := range body {
			wantRefused(t, sealed(body[:n]), api.ErrImage)
		}
		for b := range 256 {
			wantRefused(t, sealed(append(slices.Clone(body), byte(b))), api.ErrImage)
		}
		wantRefused(t, sealed(slices.Concat(body, body)), api.ErrImage)
	}
}

// TestReadOfLongNumbers has one number of a body told in more groups than it has, at each place where one stands.
func TestReadOfLongNumbers(t *testing.T) { // P12.2, P12.4
	parts := [][]byte{{1}, {3}, {1}, {2}, {0}, {0}, {1}, {1}, {0}, {1}, {0}, {2}, {4}, {2}, {0x20}, {7}, {0x2e}}
	for k, part := range parts {
		for more := 1; more <= 11; more++ {
			long := append([]byte{part[0] | 0x80}, bytes.Repeat([]byte{0x80}, more)...)
			long[more] = 0
			l := slices.Clone(parts)
			l[k] = long
			wantRefused(t, sealed(slices.Concat(l...)), api.ErrImage)
		}
		l := slices.Clone(parts)
		l[k] = append(bytes.Repeat([]byte{0xff}, 9), 2)
		wantRefused(t, sealed(slices.Concat(l...)), api.ErrImage)
	}
}

// TestReadOfGreatSizes has numbers that no Len, Locals, Stack or operand can be.
func TestReadOfGreatSizes(t *testing.T) { // P12.2, P12.4
	put := func(n uint64) []byte { return binary.AppendUvarint(nil, n) }
	body := func(length, locals, stack, operand uint64) []byte {
		return sealed(slices.Concat([]byte{0, 1}, put(length), []byte{0, 0, 1, 0, 0, 0}, put(locals), put(stack), []byte{1, 43}, put(operand)))
	}
	for _, n := range []uint64{1 << 63, 1<<63 + 1, 1<<64 - 1} {
		wantRefused(t, body(n, 0, 0, 0), api.ErrImage)
		wantRefused(t, body(0, n, 0, 0), api.ErrImage)
		wantRefused(t, body(0, 0, n, 0), api.ErrImage)
		wantRefused(t, body(0, 0, 0, n), api.ErrImage)
	}
	m := withCode(api.Instr{Op: api.InJump, A: 1<<63 - 1})
	m.Arrays, m.Funcs[0].Locals, m.Funcs[0].Stack = []api.Array{{Len: 1<<63 - 1}}, 1<<63-1, 1<<63-1
	wantRead(t, body(1<<63-1, 1<<63-1, 1<<63-1, 1<<63-1), m, api.OK)
}

// TestReadOfGreatCounts says of each list that there is far more than bytes are left.
func TestReadOfGreatCounts(t *testing.T) { // P12.2, P1
	ahead := [][]byte{{}, {0}, {0, 0}, {0, 0, 0}, {0, 0, 0, 1, 0}, {0, 0, 0, 1, 0, 0}, {0, 0, 0, 1, 0, 0, 0, 0, 0}}
	for _, b := range ahead {
		for _, n := range []uint64{1, 2, 7, 200, 1 << 20, 1 << 31, 1 << 32, 1 << 62, 1<<63 - 1, 1 << 63, 1<<64 - 1} {
			long := binary.AppendUvarint(slices.Clone(b), n)
			wantRefused(t, sealed(long), api.ErrImage)
			wantModel(t, sealed(append(long, 1, 1, 1, 1, 1, 1, 1)))
		}
	}
}

// TestReadOfEachFirstByte has each byte as an instruction's number.
func TestReadOfEachFirstByte(t *testing.T) { // P12.2
	for op := range 256 {
		code := sealed([]byte{0, 0, 0, 1, 0, 0, 0, 0, 0, 1, byte(op)})
		with := sealed([]byte{0, 0, 0, 1, 0, 0, 0, 0, 0, 1, byte(op), 5})
		switch operandOf(op) {
		case unknown:
			wantRefused(t, code, api.ErrImage)
			wantRefused(t, with, api.ErrImage)
		case noOperand:
			wantRead(t, code, withCode(api.Instr{Op: op}), api.OK)
			wantRefused(t, with, api.ErrImage)
		default:
			wantRefused(t, code, api.ErrImage)
			wantRead(t, with, withCode(api.Instr{Op: op, A: 5}), api.OK)
		}
	}
}

// changed is a body with some bytes others, some missing or some more.
func changed(r *rand.Rand, body []byte) []byte {
	b := slices.Clone(body)
	for range 1 + r.Intn(3) {
		at := r.Intn(len(b) + 1)
		switch r.Intn(4) {
		case 0:
			b = slices.Insert(b, at, byte(r.Intn(256)))
		case 1:
			b = slices.Insert(b, at, byte(r.Intn(4)))
		case 2:
			b = slices.Delete(b, at, min(len(b), at+1))
		default:
			if at < len(b) {
				b[at] += byte(1+r.Intn(255)) >> r.Intn(8)
			}
		}
	}
	return b
}

func TestReadByModel(t *testing.T) { // P12.2, P12.4
	r := rand.New(rand.NewSource(1203))
	var count [2]int
	for range 20000 {
		body := changed(r, modelBody(someModule(r)))
		data := sealed(body)
		if wantModel(t, data) != api.OK {
			count[0]++
			continue
		}
		count[1]++
		m, _ := image.Read(data)
		wantWrite(t, m, data, api.OK)
	}
	if count[0] < 2000 || count[1] < 2000 {
		t.Errorf("%d were refused and %d were read: the test's own changes are of one kind", count[0], count[1])
	}
}

// TestReadOfSmallBodies has all bodies of up to five bytes out of a few.
func TestReadOfSmallBodies(t *testing.T) { // P12.2, P12.4
	few := []byte{0, 1, 2, 0x2e, 0x7f, 0x80, 0x81, 0xff}
	var all func(body []byte)
	all = func(body []byte) {
		wantModel(t, sealed(body))
		if len(body) == 5 {
			return
		}
		for _, b := range few {
			all(append(slices.Clone(body), b))
		}
	}
	all(nil)
	// Behind these there is one function's beginning.
	for _, b := range few {
		for _, c := range few {
			for _, d := range few {
				for _, e := range few {
					wantModel(t, sealed([]byte{0, 0, 0, 1, 0, 0, 0, b, c, d, e}))
					wantModel(t, sealed([]byte{0, 0, 0, 1, 0, b, c, d, e, 0, 0}))
				}
			}
		}
	}
}

// TestReadOfAnyBytes has rows that are no images, with and without a head and a sum.
func TestReadOfAnyBytes(t *testing.T) { // P12.2, P1
	r := rand.New(rand.NewSource(1204))
	for range 20000 {
		b := make([]byte, r.Intn(40))
		r.Read(b)
		wantModel(t, b)
		wantModel(t, summed(b))
		wantModel(t, sealed(b))
		wantModel(t, append([]byte{0x4c, 0x56, 0x52, 1}, b...))
	}
}

// TestOneImageEach has modules that differ at one place alone: their images do too.
func TestOneImageEach(t *testing.T) { // P12.4
	seen := map[string]api.Module{}
	r := rand.New(rand.NewSource(1205))
	for range 20000 {
		m := someModule(r)
		// Few things, so that some come twice.
		m.Globals, m.Arrays = m.Globals[:min(1, len(m.Globals))], nil
		m.Funcs = m.Funcs[:min(1, len(m.Funcs))]
		for k := range m.Funcs {
			m.Funcs[k] = api.Function{Level: m.Funcs[k].Level % 4, Params: m.Funcs[k].Params[:min(1, len(m.Funcs[k].Params))]}
		}
		data, err := image.Write(m)
		if err != api.OK {
			t.Fatalf("Write of %+v: %d", m, err)
		}
		if other, ok := seen[string(data)]; ok && !same(other, m) {
			t.Fatalf("%+v and %+v have one image", other, m)
		}
		seen[string(data)] = m
		again, _ := image.Write(plainModule(m))
		if !bytes.Equal(again, data) {
			t.Fatalf("%+v has two images", m)
		}
	}
}

// TestTold has each byte of images another one, each byte taken away, and each one more.
func TestTold(t *testing.T) { // P12.5
	r := rand.New(rand.NewSource(1206))
	images := [][]byte{sealed(exampleBody()), sealed(modelBody(api.Module{}))}
	for range 5 {
		images = append(images, sealed(modelBody(someModule(r))))
	}
	for _, data := range images {
		for k := range data {
			for b := range 256 {
				if byte(b) == data[k] {
					continue
				}
				other := slices.Clone(data)
				other[k] = byte(b)
				want := api.ErrSum
				if k < 4 {
					want = api.ErrImage
				}
				wantRefused(t, other, want)
			}
		}
		wantRefused(t, data[:len(data)-1], api.ErrSum)
		wantRefused(t, data[1:], api.ErrImage)
		for b := range 256 {
			wantRefused(t, append(slices.Clone(data), byte(b)), api.ErrSum)
			wantRefused(t, append([]byte{byte(b)}, data...), api.ErrImage)
		}
	}
}

// TestToldOfLong has one byte of a long image another one.
func TestToldOfLong(t *testing.T) { // P12.5
	data, _ := image.Write(growing()["code"](api.MaxImage - 1))
	for k := 4; k < len(data); k += 1009 {
		data[k] ^= 0x10
		wantRefused(t, data, api.ErrSum)
		data[k] ^= 0x10
	}
	wantRefused(t, data[:len(data)-1], api.ErrSum)
	wantRefused(t, append(data, 0), api.ErrSum)
}
