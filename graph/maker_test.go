package graph_test

import (
	"fmt"
	"iter"
	"math"
	"math/rand"

	"louver/api"
)

func pick[T any](r *rand.Rand, l []T) T { return l[r.Intn(len(l))] }

func op(n int) api.Instr { return api.Instr{Op: n} }

func with(n int, a int64) api.Instr { return api.Instr{Op: n, A: a} }

func jump(a int64) api.Instr { return with(api.InJump, a) }

func zero(a int64) api.Instr { return with(api.InZero, a) }

func nop() api.Instr { return op(api.InNop) }

func back() api.Instr { return op(api.InReturn) }

func funcOf(code ...api.Instr) api.Function { return api.Function{Code: code} }

// example is the chapter's code.
func example() api.Function {
	return funcOf(with(api.InConst, 1), zero(4), nop(), jump(1), back())
}

// told is a function for a failure's text, cut off where nobody would read on.
func told(f api.Function) string {
	text := fmt.Sprint(f.Code)
	return text[:min(len(text), 2000)]
}

// plain are the numbers of instructions behind which only the next address comes, strangers among them: such as come to 43, 44 or 46, too, when they are cut to fewer bits or lose their sign.
func plain() []int {
	l := []int{math.MinInt, math.MaxInt, math.MinInt + 43, -43, -44, -46}
	for n := -2; n < 130; n++ {
		if n != 43 && n != 44 && n != 46 {
			l = append(l, n)
		}
	}
	for _, n := range []int{43, 44, 46} {
		l = append(l, n+1<<8, n+1<<16, n+1<<32, n-1<<8, n-1<<32)
	}
	return l
}

// noNodes are no numbers of nodes of a code so long.
func noNodes(n int) []int {
	return []int{-1, -2, -n - 1, n + 1, n + 2, n + 256, n + 1<<32, 1 << 32, -1 << 32, math.MinInt, math.MinInt + n, math.MaxInt, math.MaxInt - 1}
}

// noTargets are no addresses of a code so long.
func noTargets(n int) []int64 {
	l := int64(n)
	return []int64{-1, -2, -l, l, l + 1, l + 2, 1 << 8, 1 << 32, 1<<32 + 1, -1 << 32, 1<<32 - 1, math.MinInt64, math.MinInt64 + 1, math.MaxInt64, math.MaxInt64 - 1}
}

// made is a code by chance: some of its targets are no addresses, and it may run off its end.
func made(r *rand.Rand, most int) api.Function {
	f := funcOf(make([]api.Instr, r.Intn(most+1))...)
	n := len(f.Code)
	branches := r.Intn(10)
	for a := range f.Code {
		i := with(pick(r, plain()), r.Int63n(int64(n)))
		if r.Intn(10) <= branches {
			i.Op = pick(r, []int{43, 44, 44, 46})
		}
		switch r.Intn(12) {
		case 0:
			i.A = pick(r, noTargets(n))
		case 1:
			i.A = int64(a + r.Intn(3) - 1)
		}
		f.Code[a] = i
	}
	return f
}

// small goes through all codes of so many instructions, each of some sorts and with each target near the code.
func small(n int) iter.Seq[api.Function] {
	letters := []api.Instr{nop(), op(99), back(), with(api.InReturn, 1), with(api.InConst, 0)}
	for a := int64(-1); a <= int64(n+1); a++ {
		letters = append(letters, jump(a), zero(a))
	}
	return func(yield func(api.Function) bool) {
		which := make([]int, n)
		for {
			f := funcOf(make([]api.Instr, n)...)
			for a, k := range which {
				f.Code[a] = letters[k]
			}
			if !yield(f) {
				return
			}
			a := 0
			for ; a < n && which[a] == len(letters)-1; a++ {
				which[a] = 0
			}
			if a == n {
				return
			}
			which[a]++
		}
	}
}
