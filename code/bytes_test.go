package code_test

import (
	"bytes"
	"math"
	"math/rand"
	"slices"
	"testing"

	"louver/api"
	"louver/code"
	"louver/leb"
)

// modelPut is an instruction's bytes by the chapter's words.
func modelPut(i api.Instr) []byte {
	c, _ := rowOf(i.Op)
	switch {
	case !modelMay(i):
		return nil
	case c.operand == noOperand:
		return []byte{byte(c.op)}
	case c.operand == anyNumber:
		return append([]byte{byte(c.op)}, leb.PutSigned(nil, i.A)...)
	}
	return append([]byte{byte(c.op)}, leb.Put(nil, uint64(i.A))...)
}

// modelGet is what a row of bytes begins with by the chapter's words.
func modelGet(b []byte) (api.Instr, int, api.Errno) {
	if len(b) == 0 {
		return api.Instr{}, 0, api.ErrEnd
	}
	c, ok := rowOf(int(b[0]))
	if !ok {
		return api.Instr{}, 0, api.ErrCode
	}
	i, size, err := api.Instr{Op: c.op}, 0, api.OK
	switch c.operand {
	case noOperand:
	case anyNumber:
		i.A, size, err = leb.GetSigned(b[1:])
	default:
		var n uint64
		n, size, err = leb.Get(b[1:])
		if i.A = int64(n); err == api.OK && n > math.MaxInt64 {
			err = api.ErrCode
		}
	}
	if err != api.OK {
		return api.Instr{}, 0, err
	}
	return i, 1 + size, api.OK
}

func wantGet(t *testing.T, b []byte, want api.Instr, wantSize int, wantErr api.Errno) {
	t.Helper()
	if i, size, err := code.Get(b); i != want || size != wantSize || err != wantErr {
		t.Errorf("Get of % x = %v, %d, %d, want %v, %d, %d", b, i, size, err, want, wantSize, wantErr)
	}
}

// many is so many bytes, and others behind them.
func many(n int, c byte, more ...byte) []byte {
	return append(bytes.Repeat([]byte{c}, n), more...)
}

func TestPutByHand(t *testing.T) { // P10.2
	for _, c := range []struct {
		i    api.Instr
		want []byte
	}{
		{api.Instr{Op: api.InConst, A: -1}, []byte{0x20, 0x7f}},
		{api.Instr{Op: api.InConst, A: 0}, []byte{0x20, 0x00}},
		{api.Instr{Op: api.InConst, A: 63}, []byte{0x20, 0x3f}},
		{api.Instr{Op: api.InConst, A: 64}, []byte{0x20, 0xc0, 0x00}},
		{api.Instr{Op: api.InConst, A: -65}, []byte{0x20, 0xbf, 0x7f}},
		{api.Instr{Op: api.InConst, A: math.MinInt64}, slices.Concat([]byte{0x20}, many(9, 0x80, 0x7f))},
		{api.Instr{Op: api.InConst, A: math.MaxInt64}, slices.Concat([]byte{0x20}, many(9, 0xff, 0x00))},
		{api.Instr{Op: api.InLocal, A: 200}, []byte{0x21, 0xc8, 0x01}},
		{api.Instr{Op: api.InSet, A: 64}, []byte{0x22, 0x40}},
		{api.Instr{Op: api.InGlobal, A: 127}, []byte{0x23, 0x7f}},
		{api.Instr{Op: api.InSetGlobal, A: 128}, []byte{0x24, 0x80, 0x01}},
		{api.Instr{Op: api.InLoad}, []byte{0x25, 0x00}},
		{api.Instr{Op: api.InStore, A: 1}, []byte{0x26, 0x01}},
		{api.Instr{Op: api.InJump, A: 2048}, []byte{0x2b, 0x80, 0x10}},
		{api.Instr{Op: api.InZero, A: 2047}, []byte{0x2c, 0xff, 0x0f}},
		{api.Instr{Op: api.InCall, A: 31}, []byte{0x2d, 0x1f}},
		{api.Instr{Op: api.InSend, A: math.MaxInt64}, slices.Concat([]byte{0x2f}, many(8, 0xff, 0x7f))},
		{api.Instr{Op: api.OpAdd}, []byte{0x01}},
		{api.Instr{Op: api.OpInv}, []byte{0x11}},
		{api.Instr{Op: api.InDup}, []byte{0x27}},
		{api.Instr{Op: api.InSwap}, []byte{0x28}},
		{api.Instr{Op: api.InPop}, []byte{0x29}},
		{api.Instr{Op: api.InNop}, []byte{0x2a}},
		{api.Instr{Op: api.InReturn}, []byte{0x2e}},
	} {
		if got := code.Put(c.i); !bytes.Equal(got, c.want) {
			t.Errorf("Put(%v) = % x, want % x", c.i, got, c.want)
		}
		wantGet(t, c.want, c.i, len(c.want), api.OK)
	}
}

func TestPutOfNone(t *testing.T) { // P10.2
	for _, i := range []api.Instr{
		{Op: api.OpAdd, A: 1}, {Op: api.InLocal, A: -1}, {Op: 18}, {}, {A: 7}, {Op: -1}, {Op: 31}, {Op: 48}, {Op: 257}, {Op: 256 + api.InNop},
		{Op: api.InNop, A: -1}, {Op: api.InReturn, A: 2}, {Op: api.InSend, A: math.MinInt64}, {Op: 18, A: 5}, {Op: math.MaxInt}, {Op: math.MinInt},
	} {
		if got := code.Put(i); len(got) != 0 {
			t.Errorf("Put(%v) = % x", i, got)
		}
	}
}

func TestPut(t *testing.T) { // P10.2
	eachInstr(func(i api.Instr) {
		if got, want := code.Put(i), modelPut(i); !bytes.Equal(got, want) {
			t.Errorf("Put(%v) = % x, want % x", i, got, want)
		}
	})
}

func TestGetErrors(t *testing.T) { // P10.2
	beyond := many(9, 0x80, 0x01) // 2^63
	for _, c := range []struct {
		b   []byte
		err api.Errno
	}{
		{nil, api.ErrEnd}, {[]byte{}, api.ErrEnd},
		{[]byte{0x12}, api.ErrCode}, {[]byte{0x00}, api.ErrCode}, {[]byte{0x1f}, api.ErrCode}, {[]byte{0x30}, api.ErrCode}, {[]byte{0xff}, api.ErrCode},
		// What stands behind a wrong number is not looked at.
		{[]byte{0x12, 0x80}, api.ErrCode}, {[]byte{0x30, 0x80, 0x00}, api.ErrCode}, {many(20, 0xff), api.ErrCode}, {many(20, 0x80), api.ErrCode},
		{[]byte{0xa0, 0x01}, api.ErrCode}, // no number of two bytes, which would be 160
		{[]byte{0x81, 0x00}, api.ErrCode},
		{[]byte{0x21}, api.ErrEnd}, {[]byte{0x20}, api.ErrEnd}, {[]byte{0x2f}, api.ErrEnd},
		{[]byte{0x21, 0x80}, api.ErrEnd}, {[]byte{0x20, 0xff}, api.ErrEnd}, {slices.Concat([]byte{0x21}, many(9, 0xff)), api.ErrEnd},
		{[]byte{0x21, 0x80, 0x00}, api.ErrForm}, {[]byte{0x20, 0x80, 0x00}, api.ErrForm}, {[]byte{0x20, 0xff, 0x7f}, api.ErrForm},
		{slices.Concat([]byte{0x21}, many(10, 0xff)), api.ErrForm}, {slices.Concat([]byte{0x20}, many(10, 0x80)), api.ErrForm},
		{slices.Concat([]byte{0x21}, many(9, 0xff, 0x02)), api.ErrForm},
		{slices.Concat([]byte{0x2b}, many(9, 0x80, 0x02)), api.ErrForm},
		{slices.Concat([]byte{0x2d}, many(9, 0xff, 0x00)), api.ErrForm},
		{slices.Concat([]byte{0x20}, many(9, 0x80, 0x01)), api.ErrForm},
		{slices.Concat([]byte{0x21}, beyond), api.ErrCode},
		{slices.Concat([]byte{0x2f}, many(9, 0xff, 0x01)), api.ErrCode},
		{slices.Concat([]byte{0x2c}, beyond, []byte{0x01}), api.ErrCode},
	} {
		wantGet(t, c.b, api.Instr{}, 0, c.err)
	}
	// Each number with an unsigned operand has the same edge.
	for _, c := range chapter() {
		if c.operand != noOperand && c.operand != anyNumber {
			wantGet(t, slices.Concat([]byte{byte(c.op)}, beyond), api.Instr{}, 0, api.ErrCode)
			wantGet(t, slices.Concat([]byte{byte(c.op)}, many(8, 0xff, 0x7f)), api.Instr{Op: c.op, A: math.MaxInt64}, 10, api.OK)
		}
	}
}

// TestGetOfFirstBytes asks of each first byte, with each other byte behind it, and alone.
func TestGetOfFirstBytes(t *testing.T) { // P10.2, P10.4
	for first := range 256 {
		ask(t, []byte{byte(first)})
		for second := range 256 {
			ask(t, []byte{byte(first), byte(second)})
			ask(t, []byte{byte(first), byte(second), 0x00})
			ask(t, []byte{byte(first), byte(second), 0x01, 0x80})
			ask(t, []byte{byte(first), byte(second), 0x7f})
		}
	}
}

// ask holds Get of a row against the model, and what it reads against what Put writes.
func ask(t *testing.T, b []byte) api.Errno {
	t.Helper()
	want, wantSize, wantErr := modelGet(b)
	wantGet(t, b, want, wantSize, wantErr)
	i, size, err := code.Get(b)
	if err == api.OK && (!code.May(i) || !bytes.Equal(code.Put(i), b[:size])) {
		t.Errorf("Get of % x reads %v, whose Put is % x", b, i, code.Put(i))
	}
	return err
}

// TestGetOfRows asks of rows by a fixed seed, that are near to instructions.
func TestGetOfRows(t *testing.T) { // P10.2, P10.4
	r := rand.New(rand.NewSource(1002))
	ended := map[api.Errno]int{}
	for range 40000 {
		b := []byte{byte(r.Intn(50))}
		switch r.Intn(4) {
		case 0:
			b = leb.Put(b, r.Uint64()>>r.Intn(64))
		case 1:
			b = leb.PutSigned(b, int64(r.Uint64())>>r.Intn(64))
		case 2:
			b = append(b, many(r.Intn(11), byte(0x80+0x7f*r.Intn(2)), byte(r.Intn(4)))...)
		default:
			for range r.Intn(12) {
				b = append(b, byte(r.Intn(256)))
			}
		}
		if r.Intn(3) == 0 {
			b = b[:r.Intn(len(b)+1)]
		}
		if r.Intn(3) == 0 {
			b = append(b, byte(r.Intn(256)))
		}
		if r.Intn(9) == 0 && len(b) > 0 {
			b[r.Intn(len(b))] ^= byte(1 << r.Intn(8))
		}
		ended[ask(t, b)]++
	}
	for _, err := range []api.Errno{api.OK, api.ErrEnd, api.ErrForm, api.ErrCode} {
		if ended[err] < 500 {
			t.Errorf("the rows are too much alike: %v", ended)
		}
	}
}

// TestThereAndBack reads what was written, with whatever behind it, and finds each cut row wrong.
func TestThereAndBack(t *testing.T) { // P10.4
	behind := [][]byte{nil, {0x00}, {0x01}, {0x7f}, {0x80}, {0xff}, {0x20, 0x7f}, many(20, 0x80), many(20, 0xff)}
	eachInstr(func(i api.Instr) {
		b := code.Put(i)
		if !modelMay(i) {
			return
		}
		for _, more := range behind {
			wantGet(t, slices.Concat(b, more), i, len(b), api.OK)
		}
		for k := range b {
			wantGet(t, b[:k], api.Instr{}, 0, api.ErrEnd)
		}
		if !code.Operand(i.Op) && len(b) != 1 {
			t.Errorf("Put(%v) = % x", i, b)
		}
	})
}

// TestRowOfInstructions reads a row that was written one behind the other.
func TestRowOfInstructions(t *testing.T) { // P10.4
	r := rand.New(rand.NewSource(1003))
	for range 300 {
		var want, got []api.Instr
		var b []byte
		for range r.Intn(40) {
			c := chapter()[r.Intn(len(chapter()))]
			i := api.Instr{Op: c.op}
			if c.operand != noOperand {
				i.A = int64(r.Uint64()>>1) >> r.Intn(63)
			}
			if c.operand == anyNumber && r.Intn(2) == 0 {
				i.A = ^i.A
			}
			want, b = append(want, i), append(b, code.Put(i)...)
		}
		for at := 0; at < len(b); {
			i, size, err := code.Get(b[at:])
			if err != api.OK || size < 1 {
				t.Fatalf("Get of % x = %v, %d, %d", b[at:], i, size, err)
			}
			got, at = append(got, i), at+size
		}
		if !slices.Equal(got, want) {
			t.Errorf("% x is read as %v, want %v", b, got, want)
		}
	}
}
