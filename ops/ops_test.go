package ops_test

import (
	"math"
	"math/big"
	"math/rand"
	"slices"
	"testing"

	"louver/api"
	"louver/ops"
)

const least, greatest = math.MinInt64, math.MaxInt64

var binaries = []int{api.OpAdd, api.OpSub, api.OpMul, api.OpDiv, api.OpRem, api.OpAnd, api.OpOr, api.OpXor, api.OpShl, api.OpShr, api.OpEq, api.OpNe, api.OpLt, api.OpLe}

var unaries = []int{api.OpNeg, api.OpNot, api.OpInv}

// strangers are numbers of no operation: those beside the row, instructions, and such as come to one when they are cut to fewer bits.
var strangers = []int{0, -1, -2, -17, 18, 19, 31, api.InConst, api.InSend, 255, 257, 256 + api.OpNeg, 1<<16 + 1, 1<<32 + 1, 1<<32 + api.OpNot, math.MinInt, math.MinInt + 1, math.MinInt + api.OpInv, math.MaxInt}

// numbers are edges, and others by a fixed seed, so that a failure comes again.
func numbers() []int64 {
	l := []int64{0, 1, 2, 3, 5, 6, 7, 10, 31, 32, 62, 63, 64, 65, 127, 128, 1 << 31, 1 << 32, 1<<32 + 1, 1 << 62, greatest, greatest - 1, 0x5555555555555555}
	for _, a := range slices.Clone(l) {
		l = append(l, -a)
	}
	l = append(l, least, least+1, least+63)
	r := rand.New(rand.NewSource(1))
	for range 20 {
		a := int64(r.Uint64())
		l = append(l, a, a>>40, a>>uint(r.Intn(64)))
	}
	return l
}

// wrapped is what 64 bits hold of a number, told by arithmetic that has no bound.
func wrapped(x *big.Int) int64 {
	round := new(big.Int).Lsh(big.NewInt(1), 64)
	x = new(big.Int).Mod(x, round)
	if x.Cmp(big.NewInt(greatest)) > 0 {
		x.Sub(x, round)
	}
	return x.Int64()
}

func whether(holds bool) int64 {
	if holds {
		return 1
	}
	return 0
}

func bit(a int64, k int) bool {
	return 0 <= k && k < 64 && new(big.Int).And(big.NewInt(a), new(big.Int).Lsh(big.NewInt(1), uint(k))).Sign() != 0
}

// bitwise makes a number bit by bit, by what is asked of each.
func bitwise(want func(k int) bool) int64 {
	x := new(big.Int)
	for k := range 64 {
		if want(k) {
			x.SetBit(x, k, 1)
		}
	}
	return wrapped(x)
}

// sixBits is a number's rest by 64, not below 0.
func sixBits(b int64) int { return int(new(big.Int).Mod(big.NewInt(b), big.NewInt(64)).Int64()) }

func modelBinary(op int, a, b int64) int64 {
	x, y, z := big.NewInt(a), big.NewInt(b), new(big.Int)
	switch op {
	case api.OpAdd:
		return wrapped(z.Add(x, y))
	case api.OpSub:
		return wrapped(z.Sub(x, y))
	case api.OpMul:
		return wrapped(z.Mul(x, y))
	case api.OpDiv:
		if b == 0 {
			return 0
		}
		return wrapped(z.Quo(x, y))
	case api.OpRem:
		if b == 0 {
			return 0
		}
		return wrapped(z.Rem(x, y))
	case api.OpAnd:
		return bitwise(func(k int) bool { return bit(a, k) && bit(b, k) })
	case api.OpOr:
		return bitwise(func(k int) bool { return bit(a, k) || bit(b, k) })
	case api.OpXor:
		return bitwise(func(k int) bool { return bit(a, k) != bit(b, k) })
	case api.OpShl:
		return bitwise(func(k int) bool { return bit(a, k-sixBits(b)) })
	case api.OpShr:
		return bitwise(func(k int) bool { return bit(a, k+sixBits(b)) })
	case api.OpEq:
		return whether(x.Cmp(y) == 0)
	case api.OpNe:
		return whether(x.Cmp(y) != 0)
	case api.OpLt:
		return whether(x.Cmp(y) < 0)
	}
	return whether(x.Cmp(y) <= 0)
}

func modelUnary(op int, a int64) int64 {
	switch op {
	case api.OpNeg:
		return wrapped(new(big.Int).Neg(big.NewInt(a)))
	case api.OpNot:
		return whether(big.NewInt(a).Sign() == 0)
	}
	return bitwise(func(k int) bool { return !bit(a, k) })
}

// binary is Binary of an operation that is one.
func binary(t *testing.T, op int, a, b int64) int64 {
	t.Helper()
	got, ok := ops.Binary(op, a, b)
	if !ok {
		t.Fatalf("Binary(%d, %d, %d) tells nothing", op, a, b)
	}
	return got
}

func unary(t *testing.T, op int, a int64) int64 {
	t.Helper()
	got, ok := ops.Unary(op, a)
	if !ok {
		t.Fatalf("Unary(%d, %d) tells nothing", op, a)
	}
	return got
}

func TestBinaryOfTheChapter(t *testing.T) { // P2.1
	for _, c := range []struct {
		op         int
		a, b, want int64
	}{
		{api.OpDiv, 7, -2, -3},
		{api.OpRem, 7, -2, 1},
		{api.OpDiv, 7, 0, 0},
		{api.OpRem, 7, 0, 0},
		{api.OpDiv, least, -1, least},
		{api.OpRem, least, -1, 0},
		{api.OpAdd, greatest, 1, least},
		{api.OpShr, -1, 60, 15},
		{api.OpShl, 1, 64, 1},
		{api.OpShl, 1, -1, least},
		{api.OpLe, 3, 3, 1},
		{api.OpLt, 3, 3, 0},
	} {
		if got := binary(t, c.op, c.a, c.b); got != c.want {
			t.Errorf("Binary(%d, %d, %d) = %d, want %d", c.op, c.a, c.b, got, c.want)
		}
	}
}

func TestBinaryAtEdges(t *testing.T) { // P2.1
	for _, c := range []struct {
		op         int
		a, b, want int64
	}{
		{api.OpAdd, least, least, 0},
		{api.OpAdd, least, -1, greatest},
		{api.OpSub, least, 1, greatest},
		{api.OpSub, 0, least, least},
		{api.OpSub, greatest, -1, least},
		{api.OpMul, least, -1, least},
		{api.OpMul, 1 << 32, 1 << 32, 0},
		{api.OpMul, greatest, greatest, 1},
		{api.OpMul, greatest, 2, -2},
		{api.OpDiv, 0, 0, 0},
		{api.OpDiv, least, 0, 0},
		{api.OpRem, least, 0, 0},
		{api.OpDiv, least, 1, least},
		{api.OpDiv, -7, 2, -3},
		{api.OpDiv, -7, -2, 3},
		{api.OpDiv, 6, 7, 0},
		{api.OpDiv, greatest, -1, -greatest},
		{api.OpDiv, greatest, least, 0},
		{api.OpRem, -7, 2, -1},
		{api.OpRem, -7, -2, -1},
		{api.OpRem, 7, -1, 0},
		{api.OpRem, greatest, least, greatest},
		{api.OpRem, least, greatest, -1},
		{api.OpShl, 1, 63, least},
		{api.OpShl, 3, 63, least},
		{api.OpShl, 5, 65, 10},
		{api.OpShl, 1, least, 1},
		{api.OpShl, 1, greatest, least},
		{api.OpShr, least, 63, 1},
		{api.OpShr, -1, 0, -1},
		{api.OpShr, -1, 1, greatest},
		{api.OpShr, -1, 64, -1},
		{api.OpShr, -1, -1, 1},
		{api.OpShr, -1, -4, 15},
		{api.OpEq, least, least, 1},
		{api.OpEq, 1, 1<<32 + 1, 0},
		{api.OpNe, 1, 1<<32 + 1, 1},
		{api.OpNe, -1, -1, 0},
		{api.OpLt, least, greatest, 1},
		{api.OpLt, greatest, least, 0},
		{api.OpLt, -1, 0, 1},
		{api.OpLe, greatest, least, 0},
		{api.OpLe, least, greatest, 1},
		{api.OpLe, 0, -1, 0},
	} {
		if got := binary(t, c.op, c.a, c.b); got != c.want {
			t.Errorf("Binary(%d, %d, %d) = %d, want %d", c.op, c.a, c.b, got, c.want)
		}
	}
}

func TestBinaryByModel(t *testing.T) { // P2.1
	for _, op := range binaries {
		for _, a := range numbers() {
			for _, b := range numbers() {
				if got, want := binary(t, op, a, b), modelBinary(op, a, b); got != want {
					t.Errorf("Binary(%d, %d, %d) = %d, want %d", op, a, b, got, want)
				}
			}
		}
	}
}

func TestUnary(t *testing.T) { // P2.1
	for _, c := range []struct {
		op      int
		a, want int64
	}{
		{api.OpNot, 0, 1},
		{api.OpNot, 5, 0},
		{api.OpNot, 1, 0},
		{api.OpNot, -1, 0},
		{api.OpNot, 1 << 32, 0},
		{api.OpNot, least, 0},
		{api.OpInv, 0, -1},
		{api.OpInv, -1, 0},
		{api.OpInv, least, greatest},
		{api.OpInv, 6, -7},
		{api.OpNeg, least, least},
		{api.OpNeg, greatest, least + 1},
		{api.OpNeg, 0, 0},
		{api.OpNeg, 1, -1},
		{api.OpNeg, -1, 1},
	} {
		if got := unary(t, c.op, c.a); got != c.want {
			t.Errorf("Unary(%d, %d) = %d, want %d", c.op, c.a, got, c.want)
		}
	}
}

func TestUnaryByModel(t *testing.T) { // P2.1
	for _, op := range unaries {
		for _, a := range numbers() {
			if got, want := unary(t, op, a), modelUnary(op, a); got != want {
				t.Errorf("Unary(%d, %d) = %d, want %d", op, a, got, want)
			}
		}
	}
}

func TestNoUnary(t *testing.T) { // P2.1
	for _, op := range append(slices.Clone(binaries), strangers...) {
		for _, a := range numbers() {
			if got, ok := ops.Unary(op, a); got != 0 || ok {
				t.Errorf("Unary(%d, %d) = %d, %v", op, a, got, ok)
			}
		}
	}
}

func TestNoBinary(t *testing.T) { // P2.1
	for _, op := range append(slices.Clone(unaries), strangers...) {
		for _, a := range numbers() {
			for _, b := range numbers() {
				if got, ok := ops.Binary(op, a, b); got != 0 || ok {
					t.Errorf("Binary(%d, %d, %d) = %d, %v", op, a, b, got, ok)
				}
			}
		}
	}
}

func TestFold(t *testing.T) { // P2.3
	for _, c := range []struct {
		op   int
		l    []int64
		want int64
	}{
		{api.OpSub, []int64{9, 2, 3}, 4},
		{api.OpSub, []int64{9, 2}, 7},
		{api.OpAdd, []int64{1, 2, 3, 4, 5}, 15},
		{api.OpAdd, []int64{greatest, 1, -1}, greatest},
		{api.OpMul, []int64{2, 3, 0, 5}, 0},
		{api.OpDiv, []int64{100, 5, 2}, 10},
		{api.OpDiv, []int64{100, 0, 2}, 0},
		{api.OpDiv, []int64{least, -1, -1}, least},
		{api.OpRem, []int64{100, 30, 4}, 2},
		{api.OpShl, []int64{1, 2, 3}, 32},
		{api.OpShr, []int64{-1, 60, 1}, 7},
		{api.OpLt, []int64{3, 2, 1}, 1},
		{api.OpEq, []int64{0, 0, 0}, 0},
		{api.OpLe, []int64{0, 0}, 1},
	} {
		if got, ok := ops.Fold(c.op, c.l...); got != c.want || !ok {
			t.Errorf("Fold(%d, %v) = %d, %v, want %d", c.op, c.l, got, ok, c.want)
		}
	}
}

func TestFoldOfOne(t *testing.T) { // P2.3
	for _, op := range binaries {
		for _, a := range numbers() {
			if got, ok := ops.Fold(op, a); got != a || !ok {
				t.Errorf("Fold(%d, %d) = %d, %v", op, a, got, ok)
			}
		}
	}
}

func TestFoldByBinary(t *testing.T) { // P2.3
	l := numbers()
	r := rand.New(rand.NewSource(2))
	for _, op := range binaries {
		for range 200 {
			row := make([]int64, 1+r.Intn(9))
			for i := range row {
				row[i] = l[r.Intn(len(l))]
			}
			want := row[0]
			for i := 1; i < len(row); i++ {
				want = modelBinary(op, want, row[i])
			}
			if got, ok := ops.Fold(op, row...); got != want || !ok {
				t.Errorf("Fold(%d, %v) = %d, %v, want %d", op, row, got, ok, want)
			}
		}
	}
}

func TestFoldOfMany(t *testing.T) { // P2.3
	row := make([]int64, 1<<20)
	for i := range row {
		row[i] = int64(i)
	}
	if got, ok := ops.Fold(api.OpAdd, row...); got != (1<<20-1)<<19 || !ok {
		t.Errorf("Fold of many = %d, %v", got, ok)
	}
}

func TestNoFold(t *testing.T) { // P2.3
	for _, op := range append(slices.Clone(unaries), strangers...) {
		for _, l := range [][]int64{nil, {}, {1}, {1, 2}, {0, 0, 0}, {least, -1, 7, 9}} {
			if got, ok := ops.Fold(op, l...); got != 0 || ok {
				t.Errorf("Fold(%d, %v) = %d, %v", op, l, got, ok)
			}
		}
	}
	for _, op := range binaries {
		if got, ok := ops.Fold(op); got != 0 || ok {
			t.Errorf("Fold(%d) of none = %d, %v", op, got, ok)
		}
		if got, ok := ops.Fold(op, []int64{}...); got != 0 || ok {
			t.Errorf("Fold(%d) of an empty list = %d, %v", op, got, ok)
		}
	}
}

func TestArithmeticTogether(t *testing.T) { // P2.4
	for _, a := range numbers() {
		for _, b := range numbers() {
			product := binary(t, api.OpMul, binary(t, api.OpDiv, a, b), b)
			if whole := binary(t, api.OpAdd, product, binary(t, api.OpRem, a, b)); b != 0 && whole != a {
				t.Errorf("of %d by %d its parts give %d", a, b, whole)
			}
			if binary(t, api.OpSub, a, b) != binary(t, api.OpAdd, a, unary(t, api.OpNeg, b)) {
				t.Errorf("Sub of %d and %d is not Add of what is less b", a, b)
			}
			if binary(t, api.OpShl, a, b) != binary(t, api.OpMul, a, binary(t, api.OpShl, 1, b)) {
				t.Errorf("Shl of %d by %d is not Mul", a, b)
			}
		}
		if unary(t, api.OpInv, a) != binary(t, api.OpSub, unary(t, api.OpNeg, a), 1) {
			t.Errorf("Inv of %d is not Neg less 1", a)
		}
	}
}

func TestComparisonsTogether(t *testing.T) { // P2.4
	for _, a := range numbers() {
		for _, b := range numbers() {
			for _, op := range []int{api.OpEq, api.OpNe, api.OpLt, api.OpLe} {
				if got := binary(t, op, a, b); got != 0 && got != 1 {
					t.Errorf("Binary(%d, %d, %d) = %d", op, a, b, got)
				}
			}
			if (binary(t, api.OpLt, a, b) == 1) != (binary(t, api.OpLe, b, a) == 0) {
				t.Errorf("Lt of %d and %d beside Le", a, b)
			}
			if (binary(t, api.OpNe, a, b) == 1) != (binary(t, api.OpEq, a, b) == 0) {
				t.Errorf("Ne of %d and %d beside Eq", a, b)
			}
		}
	}
}

// TestAnyNumberOfAnOperation asks for no more than an answer: a panic would end the test.
func TestAnyNumberOfAnOperation(t *testing.T) { // P2.5
	l := numbers()
	for op := -300; op <= 300; op++ {
		_, single := ops.Unary(op, 1)
		_, double := ops.Binary(op, 1, 1)
		_, folded := ops.Fold(op, 1, 2)
		if single != slices.Contains(unaries, op) || double != slices.Contains(binaries, op) || folded != double {
			t.Errorf("of the number %d: %v, %v, %v", op, single, double, folded)
		}
		for _, a := range l {
			ops.Unary(op, a)
			ops.Fold(op, a, 0, a)
			ops.Binary(op, a, 0)
			ops.Binary(op, a, -1)
		}
	}
}

func TestArgumentsStay(t *testing.T) { // P2.5
	for op := -1; op <= 18; op++ {
		for _, want := range [][]int64{{9, 2, 3}, {least, -1, 0, 5, 64}, {4}} {
			l := slices.Clone(want)
			first, _ := ops.Fold(op, l...)
			again, _ := ops.Fold(op, l...)
			if !slices.Equal(l, want) || first != again {
				t.Errorf("Fold(%d, %v): then %v; %d and %d", op, want, l, first, again)
			}
		}
	}
}
