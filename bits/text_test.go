package bits_test

import (
	"math/rand"
	"slices"
	"strconv"
	"strings"
	"testing"

	"louver/api"
	"louver/bits"
)

var chapterNames = []string{"a", "b", "a", "9x"}

// manyNames are good ones, as many as are asked for: n0, n1 and on.
func manyNames(count int) []string {
	var l []string
	for k := range count {
		l = append(l, "n"+strconv.Itoa(k))
	}
	return l
}

func at63(name string) []string { return append(manyNames(63), name) }

func nameLists() [][]string {
	return [][]string{
		nil,
		chapterNames,
		manyNames(64),
		manyNames(70),
		at63("n0"),
		{"", "", "_", "_", "#1", "{}", "a b", "A", "é", "a\n"},
		{strings.Repeat("x", 31), strings.Repeat("x", 32), strings.Repeat("x", 33), strings.Repeat("x", 32)},
		{"\xff", "a\xff", "z9_", "_9", "-", "a-b"},
	}
}

func TestText(t *testing.T) { // P1.3
	full := strings.Repeat("x", api.MaxName)
	for _, c := range []struct {
		a     api.Label
		names []string
		want  string
	}{
		{15, chapterNames, "{a b #2 #3}"},
		{0, chapterNames, "{}"},
		{0, nil, "{}"},
		{1, nil, "{#0}"},
		{1, []string{}, "{#0}"},
		{4, chapterNames, "{#2}"},
		{1<<63 | 1<<10 | 2, chapterNames, "{b #10 #63}"},
		{1 << 63, manyNames(64), "{n63}"},
		{1<<63 | 1, manyNames(70), "{n0 n63}"},
		{1 << 63, at63("n0"), "{#63}"},
		{1 << 63, at63("p"), "{p}"},
		{3, []string{full, full + "x"}, "{" + full + " #1}"},
		{7, []string{full + "x", full + "x", full}, "{#0 #1 " + full + "}"},
		{7, []string{"", "_", ""}, "{#0 _ #2}"},
		{31, []string{"A", "aB", "a1", "1a", "a_"}, "{#0 #1 a1 #3 a_}"},
		{63, []string{"#1", " a", "a ", "a-b", "é", "{"}, "{#0 #1 #2 #3 #4 #5}"},
		{15, []string{"9", "9", "z", "z"}, "{#0 #1 z #3}"},
		{31, []string{"a", "z", "`", "{", "0"}, "{a z #2 #3 #4}"},
		{7, []string{"a0", "a9", "a:"}, "{a0 a9 #2}"},
	} {
		if got := bits.Text(c.a, c.names); got != c.want {
			t.Errorf("Text(%x, %q) = %q, want %q", c.a, c.names, got, c.want)
		}
	}
}

func TestTextOfAll(t *testing.T) { // P1.3
	var items []string
	for k := range 64 {
		items = append(items, "#"+strconv.Itoa(k))
	}
	if got := bits.Text(everyone, nil); got != "{"+strings.Join(items, " ")+"}" {
		t.Errorf("Text of all = %q", got)
	}
	if got := bits.Text(everyone, manyNames(64)); got != "{"+strings.Join(manyNames(64), " ")+"}" {
		t.Errorf("Text of all, with names = %q", got)
	}
}

func TestParse(t *testing.T) { // P1.4
	full := strings.Repeat("x", api.MaxName)
	for _, c := range []struct {
		s     string
		names []string
		want  api.Label
	}{
		{"{a b #2}", chapterNames, 7},
		{" { b  a b } ", chapterNames, 3},
		{"{}", chapterNames, 0},
		{"{}", nil, 0},
		{"{ }", nil, 0},
		{"\t \t{\t \t}\t \t", nil, 0},
		{"{\ta\t\tb\t}", chapterNames, 3},
		{"{#0}", chapterNames, 1},
		{"{#0 a #0 a}", chapterNames, 1},
		{"{#63 #9 #10}", nil, 1<<63 | 1<<9 | 1<<10},
		{"{b a}", chapterNames, 3},
		{"{n63}", manyNames(70), 1 << 63},
		{"{p}", at63("p"), 1 << 63},
		{"{n0}", at63("n0"), 1},
		{"{" + full + "}", []string{full + "x", full}, 2},
		{"{_ _1}", []string{"_", "_1"}, 3},
	} {
		if got, err := bits.Parse(c.s, c.names); got != c.want || err != api.OK {
			t.Errorf("Parse(%q, %q) = %x, %d, want %x", c.s, c.names, got, err, c.want)
		}
	}
}

func TestParseRefuses(t *testing.T) { // P1.4
	for _, s := range []string{
		"{c}", "{9x}", "{#64}", "{#01}", "{a,b}", "a", "{a", "", "{a}}",
		" ", "{", "}", "}{", "a}", "{{a}", "{{}}", "{}{}", "{a} b", "b {a}", "{a}{b}", "{a b", "a b}", "[a]",
		"{#}", "{# 1}", "{#-1}", "{#-0}", "{#+1}", "{#00}", "{#000}", "{#1a}", "{#1_0}", "{#0x1}", "{#a}", "{##1}", "{#1#2}", "{a#1}", "{#1.0}",
		"{#65}", "{#99}", "{#100}", "{#640}", "{#18446744073709551616}", "{#9223372036854775807}", "{#99999999999999999999999999}",
		"{0}", "{1}", "{A}", "{ab}", "{a;b}", "{a, b}", "{-a}",
		"{a\n}", "\n{a}", "{a}\r", "{a\vb}", "{a\fb}", "{a\u00a0b}", "{a\u2003b}", "\u00a0{a}", "{a\x00}", "{\xff}", "{#\u0661}",
		"{a c}", "{c a}", "{a b #2 #64}",
	} {
		if got, err := bits.Parse(s, chapterNames); got != 0 || err != api.ErrPrincipal {
			t.Errorf("Parse(%q) = %x, %d", s, got, err)
		}
	}
}

func TestParseRefusesNames(t *testing.T) { // P1.4
	long := strings.Repeat("x", api.MaxName+1)
	for _, c := range []struct {
		s     string
		names []string
	}{
		{"{a}", nil},
		{"{" + long + "}", []string{long}},
		{"{A}", []string{"A"}},
		{"{aB}", []string{"aB"}},
		{"{9}", []string{"9"}},
		{"{é}", []string{"é"}},
		{"{#a}", []string{"#a"}},
		{"{#64}", []string{"#64"}},
		{"{{}", []string{"{"}},
		{"{a b}", []string{"a b"}},
		{"{n64}", manyNames(70)},
		{"{n69}", manyNames(70)},
	} {
		if got, err := bits.Parse(c.s, c.names); got != 0 || err != api.ErrPrincipal {
			t.Errorf("Parse(%q, %q) = %x, %d", c.s, c.names, got, err)
		}
	}
}

func TestParseOfNumbers(t *testing.T) { // P1.4
	for k := -3; k < 1100; k++ {
		want, wanted := api.Label(0), api.ErrPrincipal
		if 0 <= k && k < 64 {
			want, wanted = 1<<k, api.OK
		}
		if got, err := bits.Parse("{#"+strconv.Itoa(k)+"}", nil); got != want || err != wanted {
			t.Errorf("Parse of #%d = %x, %d", k, got, err)
		}
	}
}

func TestParseOfText(t *testing.T) { // P1.6
	for _, names := range nameLists() {
		for _, a := range labels() {
			s := bits.Text(a, names)
			if got, err := bits.Parse(s, names); got != a || err != api.OK {
				t.Errorf("Parse(%q, %q) = %x, %d, want %x", s, names, got, err, a)
			}
		}
	}
}

// TestParseByModel holds Parse against a reader that goes byte by byte, over texts of pieces that are near to being labels.
func TestParseByModel(t *testing.T) { // P1.4, P1
	pieces := []string{"{", "}", " ", "\t", " ", "a", "b", "#", "#2", "#63", "0", "6", "_", "\n", "\xff", "é", ""}
	r := rand.New(rand.NewSource(2))
	taken := 0
	for range 200000 {
		var b strings.Builder
		if r.Intn(2) == 0 {
			b.WriteString("{")
		}
		for range r.Intn(7) {
			b.WriteString(pieces[r.Intn(len(pieces))])
		}
		if r.Intn(2) == 0 {
			b.WriteString("}")
		}
		s := b.String()
		want, wanted := model(s, chapterNames)
		if wanted == api.OK {
			taken++
		}
		if got, err := bits.Parse(s, chapterNames); got != want || err != wanted {
			t.Fatalf("Parse(%q) = %x, %d, want %x, %d", s, got, err, want, wanted)
		}
	}
	if taken < 1000 {
		t.Errorf("only %d of the texts were labels", taken)
	}
}

// model is for names of which the first two are good ones.
func model(s string, names []string) (api.Label, api.Errno) {
	const ahead, within, behind = 0, 1, 2
	state, word, all := ahead, "", api.Label(0)
	for i := range len(s) {
		c := s[i]
		blank := c == 9 || c == 32
		switch {
		case state == within && !blank && c != '}':
			word += string([]byte{c})
			continue
		case blank && state != within:
			continue
		case state == ahead && c == '{':
			state = within
			continue
		case state != within:
			return 0, api.ErrPrincipal
		}
		if word != "" {
			k := modelPlace(word, names)
			if k < 0 {
				return 0, api.ErrPrincipal
			}
			all |= 1 << k
		}
		word = ""
		if c == '}' {
			state = behind
		}
	}
	if state != behind {
		return 0, api.ErrPrincipal
	}
	return all, api.OK
}

func modelPlace(word string, names []string) int {
	for k := range 64 {
		if word == "#"+strconv.Itoa(k) {
			return k
		}
	}
	return slices.Index(names[:2], word)
}

func TestLongTexts(t *testing.T) { // P1
	blank := strings.Repeat(" \t", 1<<16)
	if got, err := bits.Parse(blank+"{"+blank+"a"+blank+"}"+blank, chapterNames); got != 1 || err != api.OK {
		t.Errorf("Parse with many blanks = %x, %d", got, err)
	}
	if got, err := bits.Parse("{"+strings.Repeat("b ", 1<<16)+"}", chapterNames); got != 2 || err != api.OK {
		t.Errorf("Parse of many items = %x, %d", got, err)
	}
	for _, s := range []string{strings.Repeat("{", 1<<16), "{#" + strings.Repeat("1", 1<<16) + "}", "{" + strings.Repeat("x", 1<<16) + "}"} {
		if got, err := bits.Parse(s, chapterNames); got != 0 || err != api.ErrPrincipal {
			t.Errorf("Parse of %d bytes = %x, %d", len(s), got, err)
		}
	}
	if got := bits.Text(1, []string{strings.Repeat("x", 1<<20)}); got != "{#0}" {
		t.Errorf("Text with a long name has %d bytes", len(got))
	}
	if got := bits.Text(everyone, make([]string, 1<<16)); got != bits.Text(everyone, nil) {
		t.Errorf("Text with many empty names = %q", got)
	}
}
