package image

import (
	"bytes"
	"math"

	"louver/api"
	"louver/code"
	"louver/leb"
)

// refusal is what a reader throws.
type refusal struct{ err api.Errno }

func refuse(err api.Errno) { panic(refusal{err}) }

// opened is what stands between an image's head and its sum.
func opened(data []byte) []byte {
	if len(data) > api.MaxImage {
		refuse(api.ErrLong)
	}
	if len(data) < len(head)+sumSize || string(data[:len(head)]) != head {
		refuse(api.ErrImage)
	}
	end := len(data) - sumSize
	if !bytes.Equal(data[end:], sumOf(data[:end])) {
		refuse(api.ErrSum)
	}
	return data[len(head):end]
}

// reader takes a module off its bytes; it gives up where they are no module's form.
type reader struct{ left []byte }

func (r *reader) module() api.Module {
	m := api.Module{
		Globals:  listed(r, r.label),
		Arrays:   listed(r, r.array),
		Channels: listed(r, r.label),
		Funcs:    listed(r, r.function),
	}
	if len(r.left) > 0 {
		refuse(api.ErrImage)
	}
	return m
}

// listed makes no room ahead: how many there are said to be may be any number.
func listed[T any](r *reader, next func() T) []T {
	var all []T
	for range r.number() {
		all = append(all, next())
	}
	return all
}

func (r *reader) function() api.Function {
	return api.Function{
		Level:   r.label(),
		Params:  listed(r, r.label),
		Results: listed(r, r.label),
		Locals:  r.size(),
		Stack:   r.size(),
		Code:    listed(r, r.instr),
	}
}

func (r *reader) array() api.Array {
	return api.Array{Len: r.size(), Label: r.label()}
}

func (r *reader) label() api.Label { return api.Label(r.number()) }

func (r *reader) size() int {
	n := r.number()
	if n > math.MaxInt {
		refuse(api.ErrImage)
	}
	return int(n)
}

func (r *reader) number() uint64 { return take(r, leb.Get) }

func (r *reader) instr() api.Instr { return take(r, code.Get) }

// take reads one thing by a lower layer's call, which tells how many bytes it has.
func take[T any](r *reader, get func([]byte) (T, int, api.Errno)) T {
	x, size, err := get(r.left)
	if err != api.OK {
		refuse(api.ErrImage)
	}
	r.left = r.left[size:]
	return x
}
