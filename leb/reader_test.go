package leb_test

import (
	"bytes"
	"math"
	"math/rand"
	"testing"

	"louver/api"
	"louver/leb"
)

// stands holds what a reader tells of its place against what it should.
func stands(t *testing.T, r *leb.Reader, at, left int, err api.Errno) {
	t.Helper()
	if r.At() != at || r.Left() != left || r.Err() != err {
		t.Errorf("At %d, Left %d, Err %d, want %d, %d, %d", r.At(), r.Left(), r.Err(), at, left, err)
	}
}

// silent asks a reader for everything, and wants nothing but noughts and no change of place.
func silent(t *testing.T, r *leb.Reader) {
	t.Helper()
	at, left, err := r.At(), r.Left(), r.Err()
	for range 2 {
		if n := r.Unsigned(); n != 0 {
			t.Errorf("Unsigned = %d", n)
		}
		if n := r.Signed(); n != 0 {
			t.Errorf("Signed = %d", n)
		}
		if c := r.Byte(); c != 0 {
			t.Errorf("Byte = %d", c)
		}
		stands(t, r, at, left, err)
	}
}

func TestReaderOfTheChapter(t *testing.T) { // P3.3
	r := leb.NewReader([]byte{0x05, 0x7f, 0x80})
	stands(t, r, 0, 3, api.OK)
	if n := r.Unsigned(); n != 5 {
		t.Errorf("Unsigned = %d", n)
	}
	stands(t, r, 1, 2, api.OK)
	if n := r.Signed(); n != -1 {
		t.Errorf("Signed = %d", n)
	}
	stands(t, r, 2, 1, api.OK)
	if n := r.Unsigned(); n != 0 {
		t.Errorf("Unsigned of 80 = %d", n)
	}
	stands(t, r, 2, 1, api.ErrEnd)
	silent(t, r)
}

func TestReaderOfAllKinds(t *testing.T) { // P3.3
	b := leb.Put(nil, 300)
	b = leb.PutSigned(append(b, 0xee), math.MinInt64)
	b = leb.Put(append(b, 0x80), math.MaxUint64)
	r := leb.NewReader(leb.PutSigned(b, 64))
	if n := r.Unsigned(); n != 300 {
		t.Errorf("Unsigned = %d", n)
	}
	stands(t, r, 2, 24, api.OK)
	if c := r.Byte(); c != 0xee {
		t.Errorf("Byte = %x", c)
	}
	stands(t, r, 3, 23, api.OK)
	if n := r.Signed(); n != math.MinInt64 {
		t.Errorf("Signed = %d", n)
	}
	stands(t, r, 13, 13, api.OK)
	if c := r.Byte(); c != 0x80 {
		t.Errorf("Byte = %x", c)
	}
	stands(t, r, 14, 12, api.OK)
	if n := r.Unsigned(); n != math.MaxUint64 {
		t.Errorf("Unsigned = %d", n)
	}
	stands(t, r, 24, 2, api.OK)
	if n := r.Signed(); n != 64 {
		t.Errorf("Signed = %d", n)
	}
	stands(t, r, 26, 0, api.OK)
}

func TestReaderAtTheEnd(t *testing.T) { // P3.3
	for _, b := range [][]byte{nil, {}, {0x07}} {
		for name, ask := range map[string]func(*leb.Reader) bool{
			"Unsigned": func(r *leb.Reader) bool { return r.Unsigned() == 0 },
			"Signed":   func(r *leb.Reader) bool { return r.Signed() == 0 },
			"Byte":     func(r *leb.Reader) bool { return r.Byte() == 0 },
		} {
			r := leb.NewReader(b)
			for range b {
				r.Byte()
			}
			stands(t, r, len(b), 0, api.OK)
			if !ask(r) {
				t.Errorf("%s behind the end is not 0", name)
			}
			stands(t, r, len(b), 0, api.ErrEnd)
			silent(t, r)
		}
	}
}

// TestReaderStays has good bytes behind the wrong ones: none of them may be read any more.
func TestReaderStays(t *testing.T) { // P3.3
	for _, c := range []struct {
		wrong  []byte
		signed bool
		err    api.Errno
	}{
		{[]byte{0x80, 0x00, 1, 2, 3}, false, api.ErrForm},
		{[]byte{0xff, 0x7f, 1, 2, 3}, true, api.ErrForm},
		{nine(0xff, 0x02, 1, 2, 3), false, api.ErrForm},
		{nine(0xff, 0xff, 1, 2, 3), false, api.ErrForm},
		{nine(0xff, 0x7f, 1, 2, 3), true, api.ErrForm},
		{nine(0x80), false, api.ErrEnd},
		{[]byte{0xff}, true, api.ErrEnd},
	} {
		r := leb.NewReader(append([]byte{0x2a}, c.wrong...))
		r.Byte()
		if c.signed && r.Signed() != 0 || !c.signed && r.Unsigned() != 0 {
			t.Errorf("a number of % x", c.wrong)
		}
		stands(t, r, 1, len(c.wrong), c.err)
		silent(t, r)
	}
}

func TestNoReader(t *testing.T) { // P3.3
	var none *leb.Reader
	stands(t, none, 0, 0, api.OK)
	silent(t, none)
}

func TestEmptyReader(t *testing.T) { // P1
	r := new(leb.Reader)
	stands(t, r, 0, 0, api.OK)
	if n := r.Unsigned(); n != 0 {
		t.Errorf("Unsigned = %d", n)
	}
	stands(t, r, 0, 0, api.ErrEnd)
	silent(t, r)
}

// TestReaderByGet holds readers against the calls that read from a list, over rows of calls by a fixed seed.
func TestReaderByGet(t *testing.T) { // P3.3
	random := rand.New(rand.NewSource(3))
	ended := map[api.Errno]int{}
	for range 5000 {
		b := someBytes(random)
		r := leb.NewReader(b)
		at, err := 0, api.OK
		for range 12 {
			var size int
			switch random.Intn(3) {
			case 0:
				var want uint64
				if err == api.OK {
					want, size, err = leb.Get(b[at:])
				}
				if n := r.Unsigned(); n != want {
					t.Errorf("Unsigned in % x at %d = %d, want %d", b, at, n, want)
				}
			case 1:
				var want int64
				if err == api.OK {
					want, size, err = leb.GetSigned(b[at:])
				}
				if n := r.Signed(); n != want {
					t.Errorf("Signed in % x at %d = %d, want %d", b, at, n, want)
				}
			default:
				var want byte
				if err == api.OK && at == len(b) {
					err = api.ErrEnd
				}
				if err == api.OK {
					want, size = b[at], 1
				}
				if c := r.Byte(); c != want {
					t.Errorf("Byte in % x at %d = %d, want %d", b, at, c, want)
				}
			}
			at += size
			stands(t, r, at, len(b)-at, err)
		}
		ended[err]++
	}
	if ended[api.OK] < 50 || ended[api.ErrEnd] < 50 || ended[api.ErrForm] < 50 {
		t.Errorf("the readers are too much alike: %v", ended)
	}
}

func someBytes(random *rand.Rand) []byte {
	var b []byte
	for range random.Intn(16) {
		switch random.Intn(12) {
		case 0:
			b = append(b, byte(random.Intn(256)))
		case 1, 2, 3, 4, 5:
			b = leb.Put(b, random.Uint64()>>random.Intn(64))
		default:
			b = leb.PutSigned(b, int64(random.Uint64())>>random.Intn(64))
		}
	}
	return b
}

func TestReaderHasACopy(t *testing.T) { // P3.3, P3.6
	b := []byte{0x81, 0x01, 0x40, 0x09}
	r := leb.NewReader(b)
	clear(b)
	if n := r.Unsigned(); n != 129 {
		t.Errorf("Unsigned, the list being changed = %d", n)
	}
	if n := r.Signed(); n != -64 {
		t.Errorf("Signed, the list being changed = %d", n)
	}
	if c := r.Byte(); c != 9 {
		t.Errorf("Byte, the list being changed = %d", c)
	}
}

func TestReaderLeavesItsBytes(t *testing.T) { // P3.6
	b := []byte{0x81, 0x01, 0x40, 0x09, 0x80}
	r := leb.NewReader(b[:4])
	r.Unsigned()
	r.Signed()
	r.Byte()
	if c := r.Byte(); c != 0 || r.Err() != api.ErrEnd {
		t.Errorf("behind its end a reader finds %d, %d", c, r.Err())
	}
	if !bytes.Equal(b, []byte{0x81, 0x01, 0x40, 0x09, 0x80}) {
		t.Errorf("a reader changed its list: % x", b)
	}
}

func TestTwoReaders(t *testing.T) { // P3.3
	b := []byte{1, 2, 3}
	one, two := leb.NewReader(b), leb.NewReader(b)
	one.Unsigned()
	for range 4 {
		two.Byte()
	}
	stands(t, one, 1, 2, api.OK)
	stands(t, two, 3, 0, api.ErrEnd)
	if n := one.Signed(); n != 2 {
		t.Errorf("Signed beside another reader = %d", n)
	}
}
