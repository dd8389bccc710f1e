package leb_test

import (
	"bytes"
	"math"
	"math/big"
	"math/rand"
	"slices"
	"testing"

	"louver/api"
	"louver/leb"
)

// kind is one of the two kinds of numbers, told by numbers that have no bound, so that a test asks both alike.
type kind struct {
	name   string
	signed bool
	put    func(b []byte, n *big.Int) []byte
	get    func(b []byte) (*big.Int, int, api.Errno)
	size   func(n *big.Int) int
}

func kinds() []kind {
	return []kind{
		{
			name: "unsigned",
			put:  func(b []byte, n *big.Int) []byte { return leb.Put(b, n.Uint64()) },
			get: func(b []byte) (*big.Int, int, api.Errno) {
				n, size, err := leb.Get(b)
				return new(big.Int).SetUint64(n), size, err
			},
			size: func(n *big.Int) int { return leb.Size(n.Uint64()) },
		},
		{
			name:   "signed",
			signed: true,
			put:    func(b []byte, n *big.Int) []byte { return leb.PutSigned(b, n.Int64()) },
			get: func(b []byte) (*big.Int, int, api.Errno) {
				n, size, err := leb.GetSigned(b)
				return big.NewInt(n), size, err
			},
			size: func(n *big.Int) int { return leb.SizeSigned(n.Int64()) },
		},
	}
}

func power(k int) *big.Int { return new(big.Int).Lsh(big.NewInt(1), uint(k)) }

// within: can so many bits hold the number, in two's complement if it is a signed one?
func (k kind) within(n *big.Int, width int) bool {
	low, high := new(big.Int), power(width)
	if k.signed {
		high = power(width - 1)
		low = new(big.Int).Neg(high)
	}
	return low.Cmp(n) <= 0 && n.Cmp(high) < 0
}

// numbers are all that are next to where a form or a kind ends, small ones, and others of each length by a fixed seed, so that a failure comes again.
func (k kind) numbers() []*big.Int {
	var all []*big.Int
	add := func(n *big.Int) {
		if k.within(n, 64) {
			all = append(all, n)
		}
	}
	for i := int64(-300); i <= 300; i++ {
		add(big.NewInt(i))
	}
	for i := range 65 {
		for _, off := range []int64{-2, -1, 0, 1, 2} {
			n := new(big.Int).Add(power(i), big.NewInt(off))
			add(n)
			add(new(big.Int).Neg(n))
		}
	}
	r := rand.New(rand.NewSource(1))
	for range 1000 {
		n := new(big.Int).SetUint64(r.Uint64() >> r.Intn(64))
		add(n)
		add(new(big.Int).Neg(n))
	}
	return all
}

// fewest is how many groups the form of a number has.
func (k kind) fewest(n *big.Int) int {
	groups := 1
	for !k.within(n, 7*groups) {
		groups++
	}
	return groups
}

// form is a number's form by the chapter's words.
func (k kind) form(n *big.Int) []byte {
	groups := k.fewest(n)
	left := new(big.Int).Mod(n, power(7*groups))
	row := make([]byte, groups)
	for i := range row {
		row[i] = byte(new(big.Int).Mod(left, big.NewInt(128)).Int64()) + 128
		left.Rsh(left, 7)
	}
	row[groups-1] -= 128
	return row
}

// number is what a row of bytes tells, whatever its length.
func (k kind) number(row []byte) *big.Int {
	n := new(big.Int)
	for i, c := range row {
		n.Add(n, new(big.Int).Mul(big.NewInt(int64(c%128)), power(7*i)))
	}
	if k.signed && row[len(row)-1]%128 >= 64 {
		n.Sub(n, power(7*len(row)))
	}
	return n
}

// model is Get by the chapter's words, byte by byte.
func (k kind) model(b []byte) (*big.Int, int, api.Errno) {
	for i := 0; ; i++ {
		switch {
		case i == len(b):
			return new(big.Int), 0, api.ErrEnd
		case b[i] < 128:
			n := k.number(b[:i+1])
			if !k.within(n, 64) || k.fewest(n) != i+1 {
				return new(big.Int), 0, api.ErrForm
			}
			return n, i + 1, api.OK
		case i == 9:
			return new(big.Int), 0, api.ErrForm
		}
	}
}

// rows are such as are forms, and such as are near to it.
func rows() [][]byte {
	all := [][]byte{nil, {}}
	for a := range 256 {
		all = append(all, []byte{byte(a)})
		for b := range 256 {
			all = append(all, []byte{byte(a), byte(b)})
		}
	}
	for _, c := range []byte{0x80, 0xff, 0xc0, 0xbf} {
		for count := range 13 {
			ahead := bytes.Repeat([]byte{c}, count)
			all = append(all, ahead)
			for b := range 256 {
				all = append(all, append(slices.Clone(ahead), byte(b)), append(slices.Clone(ahead), byte(b), 0), append(slices.Clone(ahead), 0x80|byte(b), byte(b)&0x7f))
			}
		}
	}
	pieces := []byte{0x00, 0x01, 0x02, 0x3f, 0x40, 0x41, 0x7e, 0x7f, 0x80, 0x81, 0xbf, 0xc0, 0xc1, 0xfe, 0xff}
	r := rand.New(rand.NewSource(2))
	for range 20000 {
		row := make([]byte, r.Intn(14))
		for i := range row {
			row[i] = pieces[r.Intn(len(pieces))] | byte(r.Intn(4)/3)<<7
			if r.Intn(8) > 0 && i < len(row)-1 {
				row[i] |= 0x80
			}
		}
		all = append(all, row)
	}
	return all
}

func nine(c byte, last ...byte) []byte { return append(bytes.Repeat([]byte{c}, 9), last...) }

func TestPutOfTheChapter(t *testing.T) { // P3.1
	for _, c := range []struct {
		n    uint64
		want []byte
	}{
		{0, []byte{0x00}},
		{1, []byte{0x01}},
		{127, []byte{0x7f}},
		{128, []byte{0x80, 0x01}},
		{16383, []byte{0xff, 0x7f}},
		{16384, []byte{0x80, 0x80, 0x01}},
		{1<<63 - 1, append(bytes.Repeat([]byte{0xff}, 8), 0x7f)},
		{1 << 63, nine(0x80, 0x01)},
		{math.MaxUint64, nine(0xff, 0x01)},
	} {
		if got := leb.Put(nil, c.n); !bytes.Equal(got, c.want) {
			t.Errorf("Put of %d = % x, want % x", c.n, got, c.want)
		}
		if got := leb.Size(c.n); got != len(c.want) {
			t.Errorf("Size of %d = %d, want %d", c.n, got, len(c.want))
		}
	}
}

func TestPutSignedOfTheChapter(t *testing.T) { // P3.1
	for _, c := range []struct {
		n    int64
		want []byte
	}{
		{0, []byte{0x00}},
		{63, []byte{0x3f}},
		{64, []byte{0xc0, 0x00}},
		{-1, []byte{0x7f}},
		{-64, []byte{0x40}},
		{-65, []byte{0xbf, 0x7f}},
		{8191, []byte{0xff, 0x3f}},
		{8192, []byte{0x80, 0xc0, 0x00}},
		{-8192, []byte{0x80, 0x40}},
		{-8193, []byte{0xff, 0xbf, 0x7f}},
		{1<<62 - 1, append(bytes.Repeat([]byte{0xff}, 8), 0x3f)},
		{1 << 62, append(bytes.Repeat([]byte{0x80}, 8), 0xc0, 0x00)},
		{-1 << 62, append(bytes.Repeat([]byte{0x80}, 8), 0x40)},
		{math.MaxInt64, nine(0xff, 0x00)},
		{math.MinInt64, nine(0x80, 0x7f)},
	} {
		if got := leb.PutSigned(nil, c.n); !bytes.Equal(got, c.want) {
			t.Errorf("PutSigned of %d = % x, want % x", c.n, got, c.want)
		}
		if got := leb.SizeSigned(c.n); got != len(c.want) {
			t.Errorf("SizeSigned of %d = %d, want %d", c.n, got, len(c.want))
		}
	}
}

func TestPutByModel(t *testing.T) { // P3.1
	for _, k := range kinds() {
		for _, n := range k.numbers() {
			form := k.form(n)
			if len(form) < 1 || len(form) > 10 {
				t.Fatalf("%s: the model's form of %d has %d bytes", k.name, n, len(form))
			}
			for _, b := range [][]byte{nil, {}, {0x00}, {0x80}, {0xff, 0x01, 0x80}} {
				if got, want := k.put(b, n), slices.Concat(b, form); !bytes.Equal(got, want) {
					t.Errorf("%s: put of %d behind % x = % x, want % x", k.name, n, b, got, want)
				}
			}
			if got := k.size(n); got != len(form) {
				t.Errorf("%s: size of %d = %d, want %d", k.name, n, got, len(form))
			}
		}
	}
}

func TestGetOfTheChapter(t *testing.T) { // P3.2
	for _, c := range []struct {
		b    []byte
		n    uint64
		size int
		err  api.Errno
	}{
		{[]byte{0x80, 0x01, 0x05}, 128, 2, api.OK},
		{[]byte{0x80}, 0, 0, api.ErrEnd},
		{nil, 0, 0, api.ErrEnd},
		{[]byte{}, 0, 0, api.ErrEnd},
		{[]byte{0x80, 0x00}, 0, 0, api.ErrForm},
		{nine(0xff, 0xff), 0, 0, api.ErrForm},
		{nine(0xff, 0x02), 0, 0, api.ErrForm},
		{nine(0xff), 0, 0, api.ErrEnd},
		{nine(0xff, 0x01), math.MaxUint64, 10, api.OK},
		{nine(0x80, 0x01, 0x80), 1 << 63, 10, api.OK},
		{nine(0x80, 0x00), 0, 0, api.ErrForm},
		{nine(0xff, 0x03), 0, 0, api.ErrForm},
		{nine(0xff, 0x7f), 0, 0, api.ErrForm},
		{nine(0x80, 0x80), 0, 0, api.ErrForm},
		{nine(0x80, 0x80, 0x00), 0, 0, api.ErrForm},
		{[]byte{0xff, 0x00}, 0, 0, api.ErrForm},
		{[]byte{0x00, 0x80}, 0, 1, api.OK},
		{[]byte{0x7f}, 127, 1, api.OK},
	} {
		if n, size, err := leb.Get(c.b); n != c.n || size != c.size || err != c.err {
			t.Errorf("Get of % x = %d, %d, %d, want %d, %d, %d", c.b, n, size, err, c.n, c.size, c.err)
		}
	}
}

func TestGetSignedOfTheChapter(t *testing.T) { // P3.2
	for _, c := range []struct {
		b    []byte
		n    int64
		size int
		err  api.Errno
	}{
		{[]byte{0x7f}, -1, 1, api.OK},
		{[]byte{0xff, 0x7f}, 0, 0, api.ErrForm},
		{[]byte{0x80, 0x00}, 0, 0, api.ErrForm},
		{[]byte{0xc0, 0x00}, 64, 2, api.OK},
		{[]byte{0xbf, 0x00}, 0, 0, api.ErrForm},
		{[]byte{0xc0, 0x7f}, 0, 0, api.ErrForm},
		{[]byte{0xbf, 0x7f, 0x7f}, -65, 2, api.OK},
		{nil, 0, 0, api.ErrEnd},
		{[]byte{0xff}, 0, 0, api.ErrEnd},
		{nine(0x80), 0, 0, api.ErrEnd},
		{nine(0x80, 0x7f), math.MinInt64, 10, api.OK},
		{nine(0xff, 0x00), math.MaxInt64, 10, api.OK},
		{nine(0xff, 0x7f), 0, 0, api.ErrForm},
		{nine(0x80, 0x00), 0, 0, api.ErrForm},
		{nine(0xff, 0x01), 0, 0, api.ErrForm},
		{nine(0xff, 0x40), 0, 0, api.ErrForm},
		{nine(0x80, 0x01), 0, 0, api.ErrForm},
		{nine(0x80, 0x41), 0, 0, api.ErrForm},
		{nine(0x80, 0x7e), 0, 0, api.ErrForm},
		{nine(0x80, 0xff), 0, 0, api.ErrForm},
		{nine(0x80, 0xff, 0x7f), 0, 0, api.ErrForm},
	} {
		if n, size, err := leb.GetSigned(c.b); n != c.n || size != c.size || err != c.err {
			t.Errorf("GetSigned of % x = %d, %d, %d, want %d, %d, %d", c.b, n, size, err, c.n, c.size, c.err)
		}
	}
}

func TestGetByModel(t *testing.T) { // P3.2, P1
	for _, k := range kinds() {
		told := map[api.Errno]int{}
		for _, b := range rows() {
			want, wanted, wantedErr := k.model(b)
			n, size, err := k.get(b)
			if n.Cmp(want) != 0 || size != wanted || err != wantedErr {
				t.Errorf("%s: get of % x = %d, %d, %d, want %d, %d, %d", k.name, b, n, size, err, want, wanted, wantedErr)
			}
			told[err]++
		}
		if told[api.OK] < 1000 || told[api.ErrEnd] < 1000 || told[api.ErrForm] < 1000 {
			t.Errorf("%s: the rows are too much alike: %v", k.name, told)
		}
	}
}

func TestGetOfMany(t *testing.T) { // P3.2
	for _, k := range kinds() {
		if n, size, err := k.get(make([]byte, 1<<20)); n.Sign() != 0 || size != 1 || err != api.OK {
			t.Errorf("%s: get of many noughts = %d, %d, %d", k.name, n, size, err)
		}
		if n, size, err := k.get(bytes.Repeat([]byte{0x80}, 1<<20)); n.Sign() != 0 || size != 0 || err != api.ErrForm {
			t.Errorf("%s: get of a row without an end = %d, %d, %d", k.name, n, size, err)
		}
	}
}

func TestGetOfPut(t *testing.T) { // P3.4
	for _, k := range kinds() {
		for _, n := range k.numbers() {
			for _, ahead := range [][]byte{nil, {0x80}, {0x00, 0xff}} {
				for _, behind := range [][]byte{nil, {0x00}, {0x80}, {0xff, 0xff, 0x7f}} {
					b := append(k.put(ahead, n), behind...)
					if got, size, err := k.get(b[len(ahead):]); got.Cmp(n) != 0 || size != k.size(n) || err != api.OK {
						t.Errorf("%s: %d, put and got in % x: %d, %d, %d", k.name, n, b, got, size, err)
					}
				}
			}
		}
	}
}

func TestPutOfGet(t *testing.T) { // P3.4
	for _, k := range kinds() {
		rowOf := map[string][]byte{}
		for _, b := range rows() {
			n, size, err := k.get(b)
			if err != api.OK {
				continue
			}
			if again := k.put(nil, n); !bytes.Equal(again, b[:size]) {
				t.Errorf("%s: % x is read as %d, whose form is % x", k.name, b[:size], n, again)
			}
			if other, ok := rowOf[n.String()]; ok && !bytes.Equal(other, b[:size]) {
				t.Errorf("%s: % x and % x are both read as %d", k.name, other, b[:size], n)
			}
			rowOf[n.String()] = b[:size]
		}
	}
}

func TestGreaterIsNotShorter(t *testing.T) { // P3.5
	k := kinds()[0]
	all := k.numbers()
	slices.SortFunc(all, (*big.Int).Cmp)
	for i, n := range all[1:] {
		if lesser := all[i]; k.size(lesser) > k.size(n) || len(k.put(nil, lesser)) > len(k.put(nil, n)) {
			t.Errorf("%d has more bytes than %d", lesser, n)
		}
	}
}

func TestCutForms(t *testing.T) { // P3.5
	for _, k := range kinds() {
		for _, n := range k.numbers() {
			form := k.put(nil, n)
			for cut := range form {
				if got, size, err := k.get(form[:cut]); got.Sign() != 0 || size != 0 || err != api.ErrEnd {
					t.Errorf("%s: get of % x, cut from the form of %d = %d, %d, %d", k.name, form[:cut], n, got, size, err)
				}
			}
		}
	}
}

func TestArgumentsStay(t *testing.T) { // P3.6
	for _, k := range kinds() {
		for _, n := range k.numbers() {
			whole := bytes.Repeat([]byte{0x85}, 30)
			for _, b := range [][]byte{whole[:0], whole[:7], whole[:29], whole} {
				k.put(b, n)
				k.get(b)
			}
			if !bytes.Equal(whole, bytes.Repeat([]byte{0x85}, 30)) {
				t.Fatalf("%s: put or get of %d changed what was handed in: % x", k.name, n, whole)
			}
		}
	}
}

func TestAnswersAreNew(t *testing.T) { // P3.6
	for _, k := range kinds() {
		for _, n := range k.numbers() {
			b := make([]byte, 3, 40)
			one, two := k.put(b, n), k.put(b, n)
			kept := slices.Clone(one)
			for i := range two {
				two[i] = 0x55
			}
			for i := range b[:cap(b)] {
				b[:cap(b)][i] = 0x66
			}
			if !bytes.Equal(one, kept) {
				t.Fatalf("%s: an answer for %d shares memory: % x", k.name, n, one)
			}
		}
	}
}
