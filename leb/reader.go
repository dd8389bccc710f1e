package leb

import (
	"slices"

	"louver/api"
)

// Reader: see chapter 3.
type Reader struct {
	b   []byte
	at  int
	err api.Errno
}

// NewReader: P3.3.
func NewReader(b []byte) *Reader { return &Reader{b: slices.Clone(b)} }

// Unsigned: P3.3.
func (r *Reader) Unsigned() uint64 { return take(r.ahead, r.move, Get) }

// Signed: P3.3.
func (r *Reader) Signed() int64 { return take(r.ahead, r.move, GetSigned) }

// Byte: P3.3.
func (r *Reader) Byte() byte { return take(r.ahead, r.move, first) }

// Left: P3.3.
func (r *Reader) Left() int {
	if r == nil {
		return 0
	}
	return len(r.b) - r.at
}

// At: P3.3.
func (r *Reader) At() int {
	if r == nil {
		return 0
	}
	return r.at
}

// Err: P3.3.
func (r *Reader) Err() api.Errno {
	if r == nil {
		return api.OK
	}
	return r.err
}

// ahead is what may still be read; false, if nothing may be read any more, for an error or for want of a reader.
func (r *Reader) ahead() ([]byte, bool) {
	if r == nil || r.err != api.OK {
		return nil, false
	}
	return r.b[r.at:], true
}

func (r *Reader) move(size int, err api.Errno) {
	r.at += size
	r.err = err
}

// take reads one thing of any kind. Beside an error get tells no bytes, so the reader stays where it stands.
func take[T number | byte](ahead func() ([]byte, bool), move func(int, api.Errno), get func([]byte) (T, int, api.Errno)) T {
	b, ok := ahead()
	if !ok {
		return 0
	}
	x, size, err := get(b)
	move(size, err)
	return x
}

func first(b []byte) (byte, int, api.Errno) {
	if len(b) == 0 {
		return 0, 0, api.ErrEnd
	}
	return b[0], 1, api.OK
}
