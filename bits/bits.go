// Package bits is layer 1: see shared/doc/01-bits.md.
package bits

import (
	"iter"
	"math/bits"

	"louver/api"
)

// Join: P1.1.
func Join(l ...api.Label) api.Label {
	var all api.Label
	for _, a := range l {
		all |= a
	}
	return all
}

// Meet: P1.1.
func Meet(a, b api.Label) api.Label { return a & b }

// Minus: P1.1.
func Minus(a, b api.Label) api.Label { return a &^ b }

// Within: P1.1.
func Within(a, b api.Label) bool { return Minus(a, b) == 0 }

// Len: P1.1.
func Len(a api.Label) int { return bits.OnesCount64(uint64(a)) }

// Of: P1.2.
func Of(numbers ...int) api.Label {
	var all api.Label
	for _, k := range numbers {
		// Go panics at a shift by less than 0, so the test comes first.
		if 0 <= k && k < api.MaxPrincipals {
			all |= 1 << k
		}
	}
	return all
}

// Numbers: P1.2.
func Numbers(a api.Label) []int {
	l := make([]int, 0, Len(a))
	for k := range Each(a) {
		l = append(l, k)
	}
	return l
}

// Each: P1.2.
func Each(a api.Label) iter.Seq[int] {
	return func(yield func(int) bool) {
		// What is left is each going-over's own, or a second one would find nothing.
		for left := a; left != 0; left &= left - 1 {
			if !yield(bits.TrailingZeros64(uint64(left))) {
				return
			}
		}
	}
}
