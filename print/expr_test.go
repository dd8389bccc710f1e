package print_test

import (
	"math"
	"math/rand"
	"slices"
	"strings"
	"testing"

	"louver/api"
	"louver/print"
	"louver/syntax"
)

func TestBracketsByLevels(t *testing.T) { // P6.2, P6.3
	a, b, c := named("a"), named("b"), named("c")
	level := []int{4, 4, 5, 5, 5, 2, 1, 1, 3, 3, 0, 0, 0, 0}
	in := func(text string, brackets bool) string {
		if brackets {
			return "(" + text + ")"
		}
		return text
	}
	for i, x := range level {
		op, s := binary(int64(i+1)), " "+signOf(int64(i+1))+" "
		wantExpr(t, "a"+s+"b", x, a, b, op)
		wantExpr(t, "t[a"+s+"b]", 7, a, b, op, index("t"))
		wantExpr(t, "t[a]"+s+"u[b]", x, a, index("t"), b, index("u"), op)
		for k, sign := range []string{"-", "!", "~"} {
			turn := unary(int64(15 + k))
			wantExpr(t, sign+"(a"+s+"b)", 6, a, b, op, turn)
			wantExpr(t, sign+"a"+s+sign+sign+"b", x, a, turn, b, turn, turn, op)
			wantExpr(t, sign+"t[a"+s+"b]", 6, a, b, op, index("t"), turn)
		}
		for k, y := range level {
			other, r := binary(int64(k+1)), " "+signOf(int64(k+1))+" "
			wantExpr(t, in("a"+s+"b", x < y)+r+"c", y, a, b, op, c, other)
			wantExpr(t, "a"+r+in("b"+s+"c", x <= y), y, a, b, c, op, other)
		}
	}
}

func TestExprOfOneTerm(t *testing.T) { // P6.2, P6.3
	wantExpr(t, "0", 7, num(0))
	wantExpr(t, "9223372036854775807", 7, num(math.MaxInt64))
	for _, s := range []string{"a", "_", "_0", "iff", "principal_", strings.Repeat("z", 32)} {
		wantExpr(t, s, 7, named(s))
		wantExpr(t, s+"[3]", 7, num(3), index(s))
	}
	for _, s := range []string{"", "0", "A", "a ", " a", "a b", "a#", "(a)", "a\x00", "\xc3\xa4", "+", strings.Repeat("z", 33)} {
		wantNoExpr(t, named(s))
		wantNoExpr(t, num(1), index(s))
	}
	for _, s := range strings.Fields("principal global array channel func var if else while send return") {
		wantNoExpr(t, named(s))
		wantNoExpr(t, num(1), index(s))
	}
	wantNoExpr(t, num(math.MinInt64))
}

func TestTermsWithMoreThanTheyHave(t *testing.T) { // P6.2
	wantNoExpr(t, api.Term{Kind: api.TNumber, Value: 1, Name: "a"})
	for _, n := range []int64{1, -1, math.MinInt64, math.MaxInt64} {
		wantNoExpr(t, api.Term{Kind: api.TName, Value: n, Name: "a"})
		wantNoExpr(t, num(1), api.Term{Kind: api.TIndex, Value: n, Name: "a"})
	}
	wantNoExpr(t, num(1), api.Term{Kind: api.TUnary, Value: api.OpNeg, Name: "a"})
	wantNoExpr(t, num(1), num(1), api.Term{Kind: api.TBinary, Value: api.OpAdd, Name: "a"})
	for _, kind := range []int{0, -1, 6, math.MinInt, math.MaxInt, 1 + 1<<32} {
		wantNoExpr(t, api.Term{Kind: kind})
		wantNoExpr(t, api.Term{Kind: kind, Name: "a"})
		wantNoExpr(t, num(1), api.Term{Kind: kind, Value: 15})
		wantNoExpr(t, num(1), num(1), api.Term{Kind: kind, Value: 1})
	}
}

func TestOperationsOfTheirSort(t *testing.T) { // P6.2
	for _, op := range []int64{math.MinInt64, -1, 0, 15, 16, 17, 18, 19, 99, 256, 257, 1<<32 + 1, math.MaxInt64} {
		wantNoExpr(t, num(1), num(1), binary(op))
	}
	for _, op := range []int64{math.MinInt64, -15, -1, 0, 1, 2, 14, 18, 32, 256 + 15, 1<<32 + 15, math.MaxInt64} {
		wantNoExpr(t, num(1), unary(op))
	}
}

// short are terms of each kind, good ones and others.
func short() []api.Term {
	return []api.Term{num(4), named("a"), index("t"), unary(15), binary(2), binary(3), named("if"), unary(2), {}}
}

func TestAllShortRows(t *testing.T) { // P6.2, P6.3
	good := 0
	sorts := short()
	for size := range 6 {
		count := 1
		for range size {
			count *= len(sorts)
		}
		for n := range count {
			var l []api.Term
			for range size {
				l = append(l, sorts[n%len(sorts)])
				n /= len(sorts)
			}
			text, ok := print.Expr(l)
			if x := modelTree(l); ok != (x != nil) || !ok && text != "" || (print.Level(l) < 0) == ok {
				t.Fatalf("Expr of %+v = %q, %t; Level %d", l, text, ok, print.Level(l))
			}
			if ok {
				good++
				if want := modelExpr(l); text != want || !reads(text, l) {
					t.Fatalf("Expr of %+v = %q, want %q", l, text, want)
				}
			}
		}
	}
	if good < 300 {
		t.Errorf("only %d whole rows", good)
	}
}

func TestExprByTheSyntax(t *testing.T) { // P6.2, P6.3, P6.4, P6.5
	r := rand.New(rand.NewSource(61))
	for range 4000 {
		x := randomTree(r, 4)
		l := x.terms()
		text, ok := print.Expr(l)
		if want := bare(x.full(), l); text != want || !ok {
			t.Fatalf("Expr of %+v = %q, %t, want %q", l, text, ok, want)
		}
		if !reads(text, l) {
			t.Fatalf("%q is not read as %+v", text, l)
		}
		for _, p := range pairs(text) {
			if less := without(text, p); reads(less, l) {
				t.Fatalf("%q would do for %q", less, text)
			}
		}
		level := []int{4, 4, 5, 5, 5, 2, 1, 1, 3, 3, 0, 0, 0, 0, 6, 6, 6}
		want := 7
		if x.last.Kind == api.TUnary || x.last.Kind == api.TBinary {
			want = level[x.last.Value-1]
		}
		if got := print.Level(l); got != want {
			t.Fatalf("Level of %q = %d, want %d", text, got, want)
		}
	}
}

func TestExprOfBrokenRows(t *testing.T) { // P6.2
	r := rand.New(rand.NewSource(62))
	seen := map[bool]int{}
	for range 6000 {
		l := randomTree(r, 3).terms()
		for range 1 + r.Intn(2) {
			i := r.Intn(len(l) + 1)
			sorts := short()
			x := sorts[r.Intn(len(sorts))]
			switch j := min(i+1, len(l)); r.Intn(3) {
			case 0:
				l = slices.Insert(l, i, x)
			case 1:
				l = slices.Delete(l, i, j)
			case 2:
				l = slices.Replace(l, i, j, x)
			}
		}
		text, ok := print.Expr(l)
		seen[ok]++
		if want := modelExpr(l); ok != (modelTree(l) != nil) || text != want {
			t.Fatalf("Expr of %+v = %q, %t, want %q", l, text, ok, want)
		}
	}
	if seen[true] < 500 || seen[false] < 500 {
		t.Errorf("%d rows are whole, %d are not", seen[true], seen[false])
	}
}

// The syntax has bounds of its own: Expr has none.
func TestExprOfLongRows(t *testing.T) { // P6.2, P6.4, P1
	const many = 300000
	one := []api.Term{num(1)}
	sum := []api.Term{num(1), binary(1)}
	left := append(slices.Clone(one), slices.Repeat(sum, many)...)
	wantLong(t, left, "1"+strings.Repeat(" + 1", many), 4)
	right := append(slices.Repeat(one, many+1), slices.Repeat(sum[1:], many)...)
	wantLong(t, right, strings.Repeat("1 + (", many-1)+"1 + 1"+strings.Repeat(")", many-1), 4)
	wantLong(t, append(slices.Clone(one), slices.Repeat([]api.Term{unary(16)}, many)...), strings.Repeat("!", many)+"1", 6)
	wantLong(t, append(slices.Clone(one), slices.Repeat([]api.Term{index("t")}, many)...), strings.Repeat("t[", many)+"1"+strings.Repeat("]", many), 7)
	for _, l := range [][]api.Term{left[1:], right[1:], right[:len(right)-1], append(slices.Clone(left), api.Term{}), slices.Repeat(one, many)} {
		if text, ok := print.Expr(l); text != "" || ok || print.Level(l) != -1 {
			t.Errorf("Expr of a long row that is not whole: %d bytes, %t, level %d", len(text), ok, print.Level(l))
		}
	}
}

func wantLong(t *testing.T, l []api.Term, want string, level int) {
	t.Helper()
	if text, ok := print.Expr(l); text != want || !ok || print.Level(l) != level {
		t.Errorf("Expr of a long row: %d bytes, %t, level %d, want %d bytes, level %d", len(text), ok, print.Level(l), len(want), level)
	}
}

// The syntax takes 12 brackets within one another: no text needs more of them than what was read.
func TestDeepExpressions(t *testing.T) { // P6.4
	for _, c := range []struct{ text, want string }{
		{strings.Repeat("(", 12) + "a" + strings.Repeat(")", 12), "a"},
		{strings.Repeat("(a - ", 12) + "b" + strings.Repeat(")", 12), strings.Repeat("a - (", 11) + "a - b" + strings.Repeat(")", 11)},
		{strings.Repeat("t[", 12) + "b" + strings.Repeat("]", 12), strings.Repeat("t[", 12) + "b" + strings.Repeat("]", 12)},
		{strings.Repeat("-(a + ", 12) + "b" + strings.Repeat(")", 12), strings.Repeat("-(a + ", 12) + "b" + strings.Repeat(")", 12)},
	} {
		l, f := syntax.Expr(c.text)
		if f != (api.Fault{}) {
			t.Fatalf("%q has the fault %+v", c.text, f)
		}
		if got, ok := print.Expr(l); got != c.want || !ok || !reads(got, l) {
			t.Errorf("Expr of what %q is = %q, %t, want %q", c.text, got, ok, c.want)
		}
	}
	deeper := slices.Concat(slices.Repeat([]api.Term{named("a")}, 14), slices.Repeat([]api.Term{binary(2)}, 13))
	wantExpr(t, strings.Repeat("a - (", 12)+"a - a"+strings.Repeat(")", 12), 4, deeper...)
	wantText(t, withBody(ret(deeper)), "func f {} () () {", "  return "+strings.Repeat("a - (", 12)+"a - a"+strings.Repeat(")", 12)+";", "}")
	deepest := append(append([]api.Term{named("a")}, deeper...), binary(2))
	wantExpr(t, strings.Repeat("a - (", 13)+"a - a"+strings.Repeat(")", 13), 4, deepest...)
	wantErr(t, withBody(ret(deepest)), api.ErrArg)
}
