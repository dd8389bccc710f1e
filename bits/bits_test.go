package bits_test

import (
	"math"
	"math/rand"
	"slices"
	"testing"

	"louver/api"
	"louver/bits"
)

const everyone = api.Label(math.MaxUint64)

// labels are edges, and others by a fixed seed, so that a failure comes again.
func labels() []api.Label {
	l := []api.Label{0, 1, 2, 3, 1 << 31, 1 << 32, 1 << 62, 1 << 63, 1<<63 | 1, everyone, everyone - 1, everyone >> 1, 0x5555555555555555, 0xaaaaaaaaaaaaaaaa}
	r := rand.New(rand.NewSource(1))
	for range 40 {
		l = append(l, api.Label(r.Uint64()), api.Label(r.Uint64()&r.Uint64()&r.Uint64()))
	}
	return l
}

func has(a api.Label, k int) bool { return a/(1<<k)%2 == 1 }

// of makes a label principal by principal, by what is asked of each.
func of(want func(k int) bool) api.Label {
	var a api.Label
	for k := range 64 {
		if want(k) {
			a += 1 << k
		}
	}
	return a
}

func members(a api.Label) []int {
	var l []int
	for k := range 64 {
		if has(a, k) {
			l = append(l, k)
		}
	}
	return l
}

func TestSetsOfTheChapter(t *testing.T) { // P1.1
	if got := bits.Join(1, 4); got != 5 {
		t.Errorf("Join(1, 4) = %d", got)
	}
	if got := bits.Join(); got != 0 {
		t.Errorf("Join() = %d", got)
	}
	if got := bits.Meet(3, 6); got != 2 {
		t.Errorf("Meet(3, 6) = %d", got)
	}
	if got := bits.Minus(3, 6); got != 1 {
		t.Errorf("Minus(3, 6) = %d", got)
	}
	if !bits.Within(2, 3) || bits.Within(3, 2) {
		t.Error("Within of 2 and 3")
	}
}

func TestSetsByPrincipals(t *testing.T) { // P1.1
	for _, a := range labels() {
		if got := bits.Len(a); got != len(members(a)) {
			t.Errorf("Len(%x) = %d", a, got)
		}
		if got := bits.Join(a); got != a {
			t.Errorf("Join(%x) = %x", a, got)
		}
		for _, b := range labels() {
			if got := bits.Join(a, b); got != of(func(k int) bool { return has(a, k) || has(b, k) }) {
				t.Errorf("Join(%x, %x) = %x", a, b, got)
			}
			if got := bits.Meet(a, b); got != of(func(k int) bool { return has(a, k) && has(b, k) }) {
				t.Errorf("Meet(%x, %x) = %x", a, b, got)
			}
			minus := of(func(k int) bool { return has(a, k) && !has(b, k) })
			if got := bits.Minus(a, b); got != minus {
				t.Errorf("Minus(%x, %x) = %x", a, b, got)
			}
			if got := bits.Within(a, b); got != (minus == 0) {
				t.Errorf("Within(%x, %x) = %v", a, b, got)
			}
		}
	}
}

func TestJoinOfMany(t *testing.T) { // P1.1
	var one []api.Label
	for k := range 64 {
		one = append(one, 1<<k)
	}
	if got := bits.Join(one...); got != everyone {
		t.Errorf("Join of all = %x", got)
	}
	if got := bits.Join(1, 0, 8, 1, 1<<63); got != 9|1<<63 {
		t.Errorf("Join of five = %x", got)
	}
	if got := bits.Join(nil...); got != 0 {
		t.Errorf("Join of nil = %x", got)
	}
}

func TestOf(t *testing.T) { // P1.2
	for _, c := range []struct {
		numbers []int
		want    api.Label
	}{
		{nil, 0},
		{[]int{}, 0},
		{[]int{1, 0, 1, 64, -1}, 3},
		{[]int{63}, 1 << 63},
		{[]int{64}, 0},
		{[]int{-1}, 0},
		{[]int{-64, 65, 128, 1 << 32, math.MinInt, math.MaxInt}, 0},
		{[]int{math.MaxInt, 5, math.MinInt, 5, 62}, 1<<5 | 1<<62},
	} {
		if got := bits.Of(c.numbers...); got != c.want {
			t.Errorf("Of(%v) = %x, want %x", c.numbers, got, c.want)
		}
	}
}

func TestNumbers(t *testing.T) { // P1.2
	if got := bits.Numbers(3); !slices.Equal(got, []int{0, 1}) {
		t.Errorf("Numbers(3) = %v", got)
	}
	if got := bits.Numbers(0); len(got) != 0 {
		t.Errorf("Numbers(0) = %v", got)
	}
	for _, a := range labels() {
		if got := bits.Numbers(a); !slices.Equal(got, members(a)) {
			t.Errorf("Numbers(%x) = %v", a, got)
		}
	}
}

func TestEach(t *testing.T) { // P1.2
	for _, a := range labels() {
		each := bits.Each(a)
		for turn := range 2 {
			if got := slices.Collect(each); !slices.Equal(got, members(a)) {
				t.Errorf("Each(%x), turn %d: %v", a, turn, got)
			}
		}
	}
}

func TestEachLeftEarly(t *testing.T) { // P1.2
	each := bits.Each(1<<2 | 1<<3 | 1<<40 | 1<<63)
	for stop := 1; stop <= 4; stop++ {
		var got []int
		for k := range each {
			got = append(got, k)
			if len(got) == stop {
				break
			}
		}
		if !slices.Equal(got, []int{2, 3, 40, 63}[:stop]) {
			t.Errorf("left behind %d: %v", stop, got)
		}
	}
}

func TestEachWithinItself(t *testing.T) { // P1.2
	each := bits.Each(7)
	var got []int
	for j := range each {
		for k := range each {
			got = append(got, 10*j+k)
		}
	}
	if !slices.Equal(got, []int{0, 1, 2, 10, 11, 12, 20, 21, 22}) {
		t.Errorf("one sequence within itself: %v", got)
	}
}

func TestBounds(t *testing.T) { // P1.5
	for _, a := range labels() {
		for _, b := range labels() {
			join, meet := bits.Join(a, b), bits.Meet(a, b)
			if !bits.Within(a, join) || !bits.Within(b, join) || !bits.Within(meet, a) || !bits.Within(meet, b) {
				t.Errorf("%x and %x are not between their Meet and Join", a, b)
			}
			if bits.Len(join)+bits.Len(meet) != bits.Len(a)+bits.Len(b) {
				t.Errorf("Lens of %x and %x", a, b)
			}
			in := bits.Within(a, b)
			if in != (join == b) || in != (bits.Minus(a, b) == 0) {
				t.Errorf("Within(%x, %x) = %v beside Join and Minus", a, b, in)
			}
		}
	}
}

func TestLeastAndGreatest(t *testing.T) { // P1.5
	for a := range api.Label(8) {
		for b := range api.Label(8) {
			for c := range api.Label(8) {
				if bits.Within(a, c) && bits.Within(b, c) && !bits.Within(bits.Join(a, b), c) {
					t.Errorf("Join(%d, %d) is not within %d", a, b, c)
				}
				if bits.Within(c, a) && bits.Within(c, b) && !bits.Within(c, bits.Meet(a, b)) {
					t.Errorf("%d is not within Meet(%d, %d)", c, a, b)
				}
				if all := bits.Join(a, b, c); all != bits.Join(a, bits.Join(b, c)) {
					t.Errorf("Join(%d, %d, %d) = %d", a, b, c, all)
				}
			}
		}
	}
}

func TestOfNumbers(t *testing.T) { // P1.6
	for _, a := range labels() {
		if got := bits.Of(bits.Numbers(a)...); got != a {
			t.Errorf("Of of Numbers of %x = %x", a, got)
		}
	}
}

func TestArgumentsStay(t *testing.T) { // P1.7
	numbers := []int{5, 64, 1, 1, -1}
	bits.Of(numbers...)
	if !slices.Equal(numbers, []int{5, 64, 1, 1, -1}) {
		t.Errorf("Of changed its numbers: %v", numbers)
	}
	l := []api.Label{4, 1, 4, 2}
	bits.Join(l...)
	if !slices.Equal(l, []api.Label{4, 1, 4, 2}) {
		t.Errorf("Join changed its labels: %v", l)
	}
	names := []string{"b", "", "a", "b", "9"}
	before := slices.Clone(names)
	bits.Text(31, names)
	bits.Parse("{a b #4}", names)
	if !slices.Equal(names, before) {
		t.Errorf("Text or Parse changed the names: %q", names)
	}
}

func TestAnswersAreNew(t *testing.T) { // P1.7
	a, b := bits.Numbers(7), bits.Numbers(7)
	a[0], a[1], a[2] = 9, 9, 9
	_ = append(a[:0], 8, 8, 8)
	if want := []int{0, 1, 2}; !slices.Equal(b, want) || !slices.Equal(bits.Numbers(7), want) {
		t.Errorf("two answers share memory: %v", b)
	}
}

func TestNamesAreNotKept(t *testing.T) { // P1.7
	names := []string{"a", "b"}
	bits.Text(3, names)
	bits.Parse("{a b}", names)
	names[0] = "c"
	if got := bits.Text(3, names); got != "{c b}" {
		t.Errorf("Text with a changed name = %q", got)
	}
	if got, err := bits.Parse("{a}", names); got != 0 || err != api.ErrPrincipal {
		t.Errorf("Parse with the old name = %x, %d", got, err)
	}
}
