package lex_test

import (
	"slices"
	"strings"
	"testing"
	"unsafe"

	"louver/api"
	"louver/lex"
)

func name(text string, at int) lex.Token {
	return lex.Token{Kind: lex.Name, Text: text, At: at}
}

func keyword(text string, at int) lex.Token {
	return lex.Token{Kind: lex.Keyword, Text: text, At: at}
}

func number(text string, value int64, at int) lex.Token {
	return lex.Token{Kind: lex.Number, Text: text, Value: value, At: at}
}

func mark(text string, at int) lex.Token {
	return lex.Token{Kind: lex.Mark, Text: text, At: at}
}

// brief tells a text in a failure's line, though it be long.
func brief(text string) string {
	if len(text) > 80 {
		return text[:80] + " .."
	}
	return text
}

// scans wants these words of a text, and no fault.
func scans(t *testing.T, text string, want ...lex.Token) {
	t.Helper()
	got, at, err := lex.Scan(text)
	if !slices.Equal(got, want) || at != 0 || err != api.OK {
		t.Errorf("Scan of %q = %+v, %d, %d, want %+v", brief(text), got, at, err, want)
	}
}

// fails wants this fault of a text, and no words.
func fails(t *testing.T, text string, at int, err api.Errno) {
	t.Helper()
	if l, gotAt, got := lex.Scan(text); len(l) != 0 || gotAt != at || got != err {
		t.Errorf("Scan of %q = %d words, %d, %d, want none, %d, %d", brief(text), len(l), gotAt, got, at, err)
	}
}

func TestKindsHaveTheirNumbers(t *testing.T) { // P4.1
	if got := []int{lex.Name, lex.Keyword, lex.Number, lex.Mark}; !slices.Equal(got, []int{1, 2, 3, 4}) {
		t.Errorf("kinds %v", got)
	}
}

func TestScanOfTheChapter(t *testing.T) { // P4.1
	scans(t, "x1=f(2);", name("x1", 0), mark("=", 2), name("f", 3), mark("(", 4), number("2", 2, 5), mark(")", 6), mark(";", 7))
	scans(t, "if a<=b # c", keyword("if", 0), name("a", 3), mark("<=", 4), name("b", 6))
	scans(t, "a<<=1", name("a", 0), mark("<<", 1), mark("=", 3), number("1", 1, 4))
	scans(t, "12ab", number("12", 12, 0), name("ab", 2))
	scans(t, "!==", mark("!=", 0), mark("=", 2))
	scans(t, "007", number("007", 7, 0))
	fails(t, "a > b", 2, api.ErrRune)
	fails(t, "A", 0, api.ErrRune)
	fails(t, `"`, 0, api.ErrRune)
	fails(t, "a.b", 1, api.ErrRune)
	fails(t, " "+strings.Repeat("a", 33), 1, api.ErrLong)
	fails(t, "9223372036854775808", 0, api.ErrLong)
}

func TestScanOfNoWords(t *testing.T) { // P4.1
	for _, text := range []string{"", " ", "\t\n\r ", "#", "# a", "#\n", "#a\n#b", "##", " # A > \"\n\t#"} {
		scans(t, text)
	}
}

func TestBlanks(t *testing.T) { // P4.1
	for c := range 256 {
		text := "a" + string([]byte{byte(c)}) + "b"
		switch {
		case c == 9 || c == 10 || c == 13 || c == 32:
			scans(t, text, name("a", 0), name("b", 2))
			scans(t, text[1:2])
		case c == '#':
			scans(t, text, name("a", 0))
		}
	}
	scans(t, " \r\n\t a\t\t\n;\r ", name("a", 5), mark(";", 9))
	scans(t, "= = < = < <", mark("=", 0), mark("=", 2), mark("<", 4), mark("=", 6), mark("<", 8), mark("<", 10))
}

func TestComments(t *testing.T) { // P4.1
	scans(t, "a#b\nc", name("a", 0), name("c", 4))
	scans(t, "a#b\rc\td\ne", name("a", 0), name("e", 8))
	scans(t, "#a\n#b\n\nc#", name("c", 7))
	scans(t, "a # b # c\n; # d", name("a", 0), mark(";", 10))
	scans(t, "<#\n<", mark("<", 0), mark("<", 3))
	scans(t, "i#\nf", name("i", 0), name("f", 3))
	scans(t, "1#\n2", number("1", 1, 0), number("2", 2, 3))
	for c := range 256 {
		if c != 10 {
			text := "a#" + string([]byte{byte(c), byte(c)}) + "b\nc"
			scans(t, text, name("a", 0), name("c", 6))
		}
	}
	scans(t, "#"+strings.Repeat("Z", 500)+"\nz", name("z", 502))
}

func TestScanOfLongTexts(t *testing.T) { // P4.1
	for _, piece := range []string{" ", ";", "a", "#", "9", ">", "\n"} {
		fails(t, strings.Repeat(piece, api.MaxText+1), 0, api.ErrLong)
	}
	fails(t, "A"+strings.Repeat(" ", api.MaxText), 0, api.ErrLong)
	fails(t, strings.Repeat("a ", api.MaxText), 0, api.ErrLong)
	scans(t, strings.Repeat(" ", api.MaxText))
	scans(t, "#"+strings.Repeat("#", api.MaxText-1))
	scans(t, strings.Repeat(" ", api.MaxText-1)+"b", name("b", api.MaxText-1))
	fails(t, strings.Repeat(" ", api.MaxText-1)+"B", api.MaxText-1, api.ErrRune)
	l, at, err := lex.Scan(strings.Repeat(";", api.MaxText))
	if len(l) != api.MaxText || at != 0 || err != api.OK || l[api.MaxText-1] != mark(";", api.MaxText-1) {
		t.Errorf("Scan of as many marks as a text may have = %d words, %d, %d", len(l), at, err)
	}
	scans(t, strings.Repeat("0", api.MaxText), number(strings.Repeat("0", api.MaxText), 0, 0))
}

func TestFirstFault(t *testing.T) { // P4.1
	long, great := strings.Repeat("x", 33), "9223372036854775808"
	fails(t, "A "+long, 0, api.ErrRune)
	fails(t, long+" A", 0, api.ErrLong)
	fails(t, great+" A", 0, api.ErrLong)
	fails(t, "a; "+great+">", 3, api.ErrLong)
	fails(t, "a;\n> "+great, 3, api.ErrRune)
	fails(t, "ok ok "+long+"A", 6, api.ErrLong)
	fails(t, "1 #"+long+"\n#A\n"+great+"A", 40, api.ErrLong)
	fails(t, "12"+long, 2, api.ErrLong)
	fails(t, "a\x00", 1, api.ErrRune)
}

// told is what a sequence tells, at most so many pairs of it.
func told(text string, most int) ([]lex.Token, []api.Errno) {
	return gone(lex.Each(text), most)
}

func gone(each func(func(lex.Token, api.Errno) bool), most int) (l []lex.Token, errs []api.Errno) {
	for w, err := range each {
		l, errs = append(l, w), append(errs, err)
		if len(l) == most {
			break
		}
	}
	return l, errs
}

const many = 1 << 20

func TestEach(t *testing.T) { // P4.2
	l, errs := told("send c 7;#", many)
	if !slices.Equal(l, []lex.Token{keyword("send", 0), name("c", 5), number("7", 7, 7), mark(";", 8)}) || !slices.Equal(errs, make([]api.Errno, 4)) {
		t.Errorf("Each = %+v, %v", l, errs)
	}
	for _, text := range []string{"", " ", "#;"} {
		if l, errs := told(text, many); len(l) != 0 {
			t.Errorf("Each of %q = %+v, %v", text, l, errs)
		}
	}
}

func TestEachEndsWithTheFault(t *testing.T) { // P4.2
	for _, c := range []struct {
		text string
		want []lex.Token
		err  api.Errno
	}{
		{"a 7 > b", []lex.Token{name("a", 0), number("7", 7, 2), {At: 4}}, api.ErrRune},
		{"A b", []lex.Token{{At: 0}}, api.ErrRune},
		{"; " + strings.Repeat("b", 33) + " c", []lex.Token{mark(";", 0), {At: 2}}, api.ErrLong},
		{"9223372036854775807 9223372036854775808 1", []lex.Token{number("9223372036854775807", 9223372036854775807, 0), {At: 20}}, api.ErrLong},
		{"A > " + strings.Repeat("b", 33), []lex.Token{{At: 0}}, api.ErrRune},
		{"a;" + strings.Repeat(" ", api.MaxText), []lex.Token{{At: 0}}, api.ErrLong},
		{"A" + strings.Repeat("A", api.MaxText), []lex.Token{{At: 0}}, api.ErrLong},
	} {
		errs := make([]api.Errno, len(c.want))
		errs[len(errs)-1] = c.err
		l, got := told(c.text, many)
		if !slices.Equal(l, c.want) || !slices.Equal(got, errs) {
			t.Errorf("Each of %q = %+v, %v, want %+v, %d at last", brief(c.text), l, got, c.want, c.err)
		}
	}
}

func TestEachLeftEarlyAndGoneOverAgain(t *testing.T) { // P4.2
	for _, text := range []string{"while n { n = n - 1; } # till 0\nreturn n;", "a b 7 > c", strings.Repeat(" ", api.MaxText+1)} {
		each := lex.Each(text)
		all, allErrs := gone(each, many)
		for most := 1; most <= len(all); most++ {
			for range 2 {
				l, errs := gone(each, most)
				if !slices.Equal(l, all[:most]) || !slices.Equal(errs, allErrs[:most]) {
					t.Errorf("Each of %q, left behind %d: %+v, %v", brief(text), most, l, errs)
				}
			}
		}
		if l, errs := gone(each, many); !slices.Equal(l, all) || !slices.Equal(errs, allErrs) {
			t.Errorf("Each of %q, once more: %+v, %v", brief(text), l, errs)
		}
	}
}

func TestEachWithinItself(t *testing.T) { // P4.2
	each := lex.Each("a b\nc")
	var got []string
	for x := range each {
		for y := range each {
			got = append(got, x.Text+y.Text)
		}
	}
	if !slices.Equal(got, []string{"aa", "ab", "ac", "ba", "bb", "bc", "ca", "cb", "cc"}) {
		t.Errorf("one sequence within itself: %q", got)
	}
}

func TestText(t *testing.T) { // P4.4
	for _, c := range []struct {
		l    []lex.Token
		want string
	}{
		{nil, ""},
		{[]lex.Token{{}}, ""},
		{[]lex.Token{name("a", 9)}, "a"},
		{[]lex.Token{name("a", 0), mark("<=", 0), number("07", 7, 0)}, "a <= 07"},
		{[]lex.Token{{Text: "if"}, {Text: "x", Kind: 77, Value: -5, At: -1}, {Text: "{", At: 1 << 40}}, "if x {"},
		{[]lex.Token{{Text: ""}, {Text: "a"}, {Text: ""}}, " a "},
		{[]lex.Token{{Text: " b c\n"}, {Text: "#"}, {Text: "\xff"}}, " b c\n # \xff"},
		{[]lex.Token{{Kind: lex.Number, Value: 5}, {Kind: lex.Number, Value: 5, Text: "6"}}, " 6"},
	} {
		if got := lex.Text(c.l...); got != c.want {
			t.Errorf("Text of %+v = %q, want %q", c.l, got, c.want)
		}
	}
	if got := lex.Text(); got != "" {
		t.Errorf("Text of nothing = %q", got)
	}
}

// own is a string over bytes that the test may change afterwards, as no string of the language's own can be.
func own(text string) (string, []byte) {
	b := []byte(text)
	return unsafe.String(&b[0], len(b)), b
}

func TestTokensShareNothingWithTheText(t *testing.T) { // P4.6
	const source = "if x_1 <= 42 { y = x_1; } # no more\n"
	want, _, _ := lex.Scan(source)
	text, b := own(source)
	l, _, _ := lex.Scan(text)
	each := lex.Each(text)
	ahead, _ := gone(each, 3)
	for i := range b {
		b[i] = 'z'
	}
	if !slices.Equal(l, want) {
		t.Errorf("Scan's words went with the text: %+v", l)
	}
	if !slices.Equal(ahead, want[:3]) {
		t.Errorf("Each's words went with the text: %+v", ahead)
	}
	if l, _ := gone(each, many); !slices.Equal(l, want) {
		t.Errorf("the sequence keeps the text: %+v", l)
	}
}

func TestTextSharesNothingWithTheTokens(t *testing.T) { // P4.6
	for _, words := range []string{"a", "a b"} {
		text, b := own(words)
		got := lex.Text(lex.Token{Text: text})
		b[0] = 'z'
		if got != words {
			t.Errorf("Text went with the token: %q", got)
		}
	}
}

func TestArgumentsStay(t *testing.T) { // P4.6
	text, b := own("if x { send c \x00A 7; }#\n")
	before := slices.Clone(b)
	lex.Scan(text)
	told(text, many)
	lex.Is(text)
	if !slices.Equal(b, before) {
		t.Errorf("the text was changed: %q", b)
	}
	l := []lex.Token{name("a", 3), {Text: "b", Kind: 9, Value: 8, At: -1}, {}}
	was := slices.Clone(l)
	lex.Text(l...)
	if !slices.Equal(l, was) {
		t.Errorf("the tokens were changed: %+v", l)
	}
}

func TestAnswersAreNew(t *testing.T) { // P4.6
	const text = "a = b;"
	want, _, _ := lex.Scan(text)
	first, _, _ := lex.Scan(text)
	second, _, _ := lex.Scan(text)
	clear(first)
	_ = append(first[:0], name("z", 5), name("z", 5))
	if third, _, _ := lex.Scan(text); !slices.Equal(second, want) || !slices.Equal(third, want) {
		t.Errorf("two answers share memory: %+v, %+v", second, third)
	}
}
