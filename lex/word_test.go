package lex_test

import (
	"math/big"
	"math/rand"
	"regexp"
	"slices"
	"strings"
	"testing"

	"louver/api"
	"louver/lex"
)

var keywords = strings.Fields("principal global array channel func var if else while send return")

var marks = strings.Fields("{ } ( ) [ ] , ; = == != < <= + - * / % & | ^ << >> ! ~")

func TestKeywords(t *testing.T) { // P4.1, P4.3
	for _, k := range keywords {
		scans(t, k, keyword(k, 0))
		if got := lex.Is(k); got != lex.Keyword {
			t.Errorf("Is(%s) = %d", k, got)
		}
		for _, n := range []string{k + "x", k + "_", k + "0", "_" + k, "x" + k, k[:len(k)-1], k[1:], k + k, k + "9z"} {
			if slices.Contains(keywords, n) {
				continue
			}
			scans(t, n, name(n, 0))
			if got := lex.Is(n); got != lex.Name {
				t.Errorf("Is(%s) = %d", n, got)
			}
		}
		scans(t, "1"+k+"(", number("1", 1, 0), keyword(k, 1), mark("(", 1+len(k)))
		fails(t, k+"A", len(k), api.ErrRune)
		fails(t, strings.ToUpper(k), 0, api.ErrRune)
	}
}

func TestNames(t *testing.T) { // P4.1, P4.3
	for _, n := range []string{"_", "__", "_0", "a", "z", "az", "a_z", "z9", "q0123456789", "_a_9_", strings.Repeat("_", 32), strings.Repeat("z", 32), "a" + strings.Repeat("0", 31), "return" + strings.Repeat("x", 26)} {
		scans(t, n, name(n, 0))
		scans(t, ";"+n+";", mark(";", 0), name(n, 1), mark(";", 1+len(n)))
		if got := lex.Is(n); got != lex.Name {
			t.Errorf("Is(%s) = %d", n, got)
		}
	}
	for _, n := range []string{strings.Repeat("_", 33), strings.Repeat("z", 33), "a" + strings.Repeat("0", 32), strings.Repeat("a9", 300), "return" + strings.Repeat("x", 27), strings.Repeat("while", 7)} {
		fails(t, n, 0, api.ErrLong)
		fails(t, ";\n"+n+";", 2, api.ErrLong)
		if got := lex.Is(n); got != 0 {
			t.Errorf("Is(%s) = %d", n, got)
		}
	}
}

func TestNumbers(t *testing.T) { // P4.1, P4.3
	for _, c := range []struct {
		text  string
		value int64
	}{
		{"0", 0}, {"9", 9}, {"00", 0}, {"10", 10}, {"007", 7}, {"0123456789", 123456789},
		{"999999999999999999", 999999999999999999}, {"1000000000000000000", 1000000000000000000},
		{"9223372036854775806", 9223372036854775806}, {"9223372036854775807", 9223372036854775807},
		{strings.Repeat("0", 5000) + "9223372036854775807", 9223372036854775807},
		{strings.Repeat("0", 200), 0},
	} {
		scans(t, c.text, number(c.text, c.value, 0))
		scans(t, "-"+c.text+"e", mark("-", 0), number(c.text, c.value, 1), name("e", 1+len(c.text)))
		if got := lex.Is(c.text); got != lex.Number {
			t.Errorf("Is(%q) = %d", brief(c.text), got)
		}
	}
	for _, text := range []string{"9223372036854775808", "9223372036854775810", "9999999999999999999", "10000000000000000000", "18446744073709551615", "18446744073709551616", "18446744073709551617", "36893488147419103232", strings.Repeat("9", 400), strings.Repeat("0", 5000) + "9223372036854775808"} {
		fails(t, text, 0, api.ErrLong)
		fails(t, "x-"+text+"x", 2, api.ErrLong)
		if got := lex.Is(text); got != 0 {
			t.Errorf("Is(%q) = %d", brief(text), got)
		}
	}
	scans(t, "1_0", number("1", 1, 0), name("_0", 1))
	scans(t, "0x1f", number("0", 0, 0), name("x1f", 1))
	fails(t, "1.5", 1, api.ErrRune)
}

func TestMarks(t *testing.T) { // P4.1, P4.3
	for _, m := range marks {
		scans(t, m, mark(m, 0))
		scans(t, "a"+m+"1", name("a", 0), mark(m, 1), number("1", 1, 1+len(m)))
		if got := lex.Is(m); got != lex.Mark {
			t.Errorf("Is(%s) = %d", m, got)
		}
	}
	scans(t, "===", mark("==", 0), mark("=", 2))
	scans(t, "<<<", mark("<<", 0), mark("<", 2))
	scans(t, "<<==", mark("<<", 0), mark("==", 2))
	scans(t, "<==", mark("<=", 0), mark("=", 2))
	scans(t, "=<", mark("=", 0), mark("<", 1))
	scans(t, "=!", mark("=", 0), mark("!", 1))
	scans(t, "!!=", mark("!", 0), mark("!=", 1))
	scans(t, ">>=", mark(">>", 0), mark("=", 2))
	scans(t, ">>>>", mark(">>", 0), mark(">>", 2))
	scans(t, "&&||", mark("&", 0), mark("&", 1), mark("|", 2), mark("|", 3))
	scans(t, "+=", mark("+", 0), mark("=", 1))
	scans(t, "//", mark("/", 0), mark("/", 1))
	fails(t, ">", 0, api.ErrRune)
	fails(t, ">=", 0, api.ErrRune)
	fails(t, ">>>", 2, api.ErrRune)
	fails(t, "<>", 1, api.ErrRune)
	fails(t, "->", 1, api.ErrRune)
	fails(t, "> >", 0, api.ErrRune)
}

func TestBytesWithWhichNoWordBegins(t *testing.T) { // P4.1, P4.3
	none := 0
	for c := range 256 {
		text := string([]byte{byte(c)})
		ahead := slices.Contains(marks, text) || strings.Contains("abcdefghijklmnopqrstuvwxyz_0123456789", text)
		if ahead || strings.Contains("\t\n\r #", text) {
			continue
		}
		none++
		fails(t, text, 0, api.ErrRune)
		fails(t, "a"+text, 1, api.ErrRune)
		fails(t, "# \n 12"+text+"b", 6, api.ErrRune)
		if got := lex.Is(text); got != 0 {
			t.Errorf("Is(%q) = %d", text, got)
		}
	}
	// 256 less 27 letters, 10 digits, 20 marks of one byte, 4 blanks and the comment's sign.
	if none != 194 {
		t.Errorf("%d bytes begin no word", none)
	}
	fails(t, "é", 0, api.ErrRune)
	fails(t, "xé", 1, api.ErrRune)
	fails(t, "\u00a0x", 0, api.ErrRune)
}

func TestIs(t *testing.T) { // P4.3
	for _, c := range []struct {
		word string
		want int
	}{
		{"while", 2}, {"whilex", 1}, {"=", 4}, {"===", 0}, {"7", 3}, {"7 ", 0}, {"", 0},
		{" 7", 0}, {"a b", 0}, {"a#", 0}, {"#", 0}, {"# a", 0}, {" ", 0}, {"\n", 0}, {"a\n", 0}, {"if(", 0}, {"7a", 0}, {"a7", 1}, {"-7", 0}, {"while ", 0}, {"ifelse", 1}, {"if else", 0},
		{">", 0}, {">>", 4}, {">>>", 0}, {"!=", 4}, {"=!", 0}, {"A", 0}, {"aA", 0}, {"a.", 0}, {"7.", 0}, {"=\x00", 0}, {"<<=", 0}, {"()", 0}, {"é", 0}, {"aé", 0}, {"\xff", 0},
	} {
		if got := lex.Is(c.word); got != c.want {
			t.Errorf("Is(%q) = %d, want %d", c.word, got, c.want)
		}
	}
	// The bound of a text is no bound of a word.
	if got := lex.Is(strings.Repeat("0", api.MaxText+1)); got != lex.Number {
		t.Errorf("Is of more noughts than a text may have bytes = %d", got)
	}
}

var (
	gapForm    = regexp.MustCompile(`^(?:[\t\n\r ]|#[^\n]*(?:\n|$))*`)
	nameForm   = regexp.MustCompile(`^[a-z_][a-z_0-9]*`)
	numberForm = regexp.MustCompile(`^[0-9]+`)
	markForm   = regexp.MustCompile(`^(?:==|!=|<=|<<|>>|[{}()\[\],;=<+\-*/%&|^!~])`)
)

// modelWord is the word that a text begins with, by the chapter's words.
func modelWord(text string) (lex.Token, api.Errno) {
	if n := nameForm.FindString(text); n != "" {
		switch {
		case slices.Contains(keywords, n):
			return lex.Token{Kind: 2, Text: n}, api.OK
		case len(n) > 32:
			return lex.Token{}, api.ErrLong
		}
		return lex.Token{Kind: 1, Text: n}, api.OK
	}
	if d := numberForm.FindString(text); d != "" {
		n, _ := new(big.Int).SetString(d, 10)
		if n.Cmp(new(big.Int).Lsh(big.NewInt(1), 63)) >= 0 {
			return lex.Token{}, api.ErrLong
		}
		return lex.Token{Kind: 3, Text: d, Value: n.Int64()}, api.OK
	}
	if m := markForm.FindString(text); m != "" {
		return lex.Token{Kind: 4, Text: m}, api.OK
	}
	return lex.Token{}, api.ErrRune
}

func model(text string) (l []lex.Token, fault lex.Token, err api.Errno) {
	for at := len(gapForm.FindString(text)); at < len(text); at += len(gapForm.FindString(text[at:])) {
		w, err := modelWord(text[at:])
		w.At = at
		if err != api.OK {
			return l, w, err
		}
		l = append(l, w)
		at += len(w.Text)
	}
	return l, lex.Token{}, api.OK
}

// texts are put together of words, gaps and what is neither, by a fixed seed, so that a failure comes again.
func texts() []string {
	pieces := slices.Concat(keywords, marks, marks, []string{
		"a", "x1", "_", "b_2", "0", "1", "42", "007", "9223372036854775807", strings.Repeat("n", 32), "whilex",
		" ", " ", " ", " ", "\n", "\n", "\t", "\r", "# a comment > A\n", "#\n", "# with no é end"})
	wrong := []string{">", "A", "\"", "é", "\x00", "\xff", ".", "$", strings.Repeat("n", 33), "9223372036854775808", "\u2028"}
	r := rand.New(rand.NewSource(4))
	var all []string
	for range 6000 {
		var b strings.Builder
		for range r.Intn(30) {
			if r.Intn(60) == 0 {
				b.WriteString(wrong[r.Intn(len(wrong))])
			}
			b.WriteString(pieces[r.Intn(len(pieces))])
			if r.Intn(2) == 0 {
				b.WriteByte(' ')
			}
		}
		all = append(all, b.String())
	}
	for range 6000 {
		b := make([]byte, r.Intn(12))
		for i := range b {
			b[i] = "ax_09 \n#<>=!&A\xc3\xa9"[r.Intn(16)]
		}
		all = append(all, string(b))
	}
	return all
}

func TestScanAndEachByModel(t *testing.T) { // P4.1, P4.2, P1
	for _, text := range texts() {
		l, fault, err := model(text)
		each, errs := told(text, many)
		if err != api.OK {
			fails(t, text, fault.At, err)
			l = append(l, fault)
		} else {
			scans(t, text, l...)
		}
		want := make([]api.Errno, len(l))
		if err != api.OK {
			want[len(want)-1] = err
		}
		if !slices.Equal(each, l) || !slices.Equal(errs, want) {
			t.Errorf("Each of %q = %+v, %v, want %+v, %v", text, each, errs, l, want)
		}
	}
}

func TestIsByModel(t *testing.T) { // P4.3, P1
	for _, text := range texts() {
		for _, word := range []string{text, text[:len(text)/4], text[:min(len(text), 2)]} {
			want := 0
			if w, err := modelWord(word); err == api.OK && w.Text == word {
				want = w.Kind
			}
			if got := lex.Is(word); got != want {
				t.Errorf("Is(%q) = %d, want %d", word, got, want)
			}
		}
	}
}

// onlyGaps: are these bytes blanks and comments?
func onlyGaps(text string) bool { return gapForm.FindString(text) == text }

func TestWordsStandInTheText(t *testing.T) { // P4.5
	read := 0
	for _, text := range texts() {
		l, _, err := lex.Scan(text)
		if err != api.OK {
			continue
		}
		read++
		at := 0
		for _, w := range l {
			if w.At < at || !strings.HasPrefix(text[w.At:], w.Text) || !onlyGaps(text[at:w.At]) {
				t.Fatalf("%q at %d of %q, behind %d", w.Text, w.At, text, at)
			}
			if lex.Is(w.Text) != w.Kind {
				t.Errorf("Is(%q) = %d, not its kind %d", w.Text, lex.Is(w.Text), w.Kind)
			}
			at = w.At + len(w.Text)
		}
		if !onlyGaps(text[at:]) {
			t.Errorf("words are left behind %d of %q", at, text)
		}
	}
	if read < 3000 {
		t.Errorf("only %d texts without a fault", read)
	}
}

func TestScanOfText(t *testing.T) { // P4.5
	for _, text := range texts() {
		l, _, err := lex.Scan(text)
		if err != api.OK {
			continue
		}
		again, at, err := lex.Scan(lex.Text(l...))
		if at != 0 || err != api.OK || len(again) != len(l) {
			t.Fatalf("Scan of Text of the words of %q = %d words, %d, %d, want %d", text, len(again), at, err, len(l))
		}
		behind := 0
		for i, w := range l {
			w.At = behind
			if again[i] != w {
				t.Errorf("Scan of Text of the words of %q: %+v, want %+v", text, again[i], w)
			}
			behind += len(w.Text) + 1
		}
	}
}
