package asm_test

import (
	"math/rand"
	"slices"
	"strings"
	"testing"

	"louver/api"
	"louver/asm"
)

const plainHead = "func {} params results locals 0 stack 0\n"

func TestParseOfTheChapter(t *testing.T) { // P11.2
	wantModule(t, exampleText, example())
	for _, text := range []string{"", "; a remark", "\n", " \t \n\t\n", ";", ";\n;;\n ;end\n\t; global {2,0}\n;func"} {
		wantModule(t, text, api.Module{})
	}
	for _, text := range []string{"global {2,0}", "global {64}", "global", "global {} {}", "globals {}", "end", "const 1", "array -1 {}", "array 01 {}"} {
		wantWrong(t, text, 1)
	}
	head := strings.TrimSuffix(plainHead, "\n")
	for _, line := range []string{"add 1", "const", "global {}"} {
		wantWrong(t, head+"\n"+line, 2)
	}
	wantWrong(t, head, 1)
}

// wrongLines are lines that are wrong wherever they stand.
func wrongLines() []string {
	l := []string{
		"global", "global {} {}", "global {} ;", "global {", "global }", "global {0", "global 0}", "global{}", "globals {}", "Global {}", "global: {}",
		"channel", "channel {} {}", "channel 0", "channel {0} 1", "channels {}", "chan {}",
		"array", "array {}", "array 1", "array {} 1", "array 1 {} {}", "array 1 1 {}", "array {} {}", "array 1{}", "arrays 1 {}",
		"end end", "end 0", "end {}", "End", "end.", "en", "ends", "add 0", "add 1", "add add", "return 0", "return return", "return {}", "pop 0", "nop 0", "swap -1",
		"const", "const const", "const {}", "const 1 1", "const 1 ;", "local", "local 0 0", "local -1", "set -1", "global -1", "setglobal -1", "load -1", "store -1", "jump -1", "zero -1", "call -1", "send -1",
		"send", "call", "jump", "zero", "load", "store", "setglobal", "set", "jump {}", "jump end", "jmp 0", "const1", "const-1", "32 1", "1", "0", "-1", "{}", "params", "results", "locals 0", "stack 0", "locals", "stack",
		"params {}", "func", "Func {} params results locals 0 stack 0", "function {} params results locals 0 stack 0", "principal a", "x;", "#", "# remark", "// remark", "\"end\"", "e nd", "add;", "add ; remark", "end ; remark", "global {} ; remark",
		"\r", "end\r", "\rend", "\v", "\f", "\x00", "\u00a0", "\u2003", "\ufeff", "\xff", "global\r{}", "global\v{}", "global\u00a0{}", "\u00e4", "add\xff",
	}
	for _, words := range wrongNumbers {
		l = append(l, "array "+words+" {}", "const "+words, "jump "+words, "local "+words, "func {} params results locals "+words+" stack 0", "func {} params results locals 0 stack "+words)
	}
	for _, words := range wrongLabels {
		// An instruction has that name too.
		if words != "0" {
			l = append(l, "global "+words)
		}
		l = append(l, "channel "+words, "array 1 "+words, "func "+words+" params results locals 0 stack 0",
			"func {} params "+words+" results locals 0 stack 0", "func {} params {} "+words+" results locals 0 stack 0", "func {} params "+words+" {} results locals 0 stack 0",
			"func {} params results "+words+" locals 0 stack 0", "func {} params results {} "+words+" locals 0 stack 0", "func {} params results "+words+" {} locals 0 stack 0")
	}
	return append(l, wrongHeads()...)
}

// wrongNumbers are no numbers, though some of them be near to one.
var wrongNumbers = []string{
	"00", "01", "-0", "-01", "-00", "007", "+1", "+0", "--1", "-", "+", "1-", "- 1", "1.0", "1.", ".1", "1e3", "0x1", "0b1", "0o1", "1_0", "_1", "1,0", "'1'", "a", "one", "0a", "1;", "{1}", "\u0661", "1\x00", "\uff11",
	"9223372036854775808", "-9223372036854775809", "18446744073709551616", "-18446744073709551615", "100000000000000000000", "09223372036854775807", strings.Repeat("1", 5000), "-" + strings.Repeat("9", 5000), "0" + strings.Repeat("0", 5000),
}

// wrongLabels are no labels, though some of them be near to one.
var wrongLabels = []string{
	"{2,0}", "{0,0}", "{1,1}", "{63,63}", "{0,2,1}", "{0,1,1,2}", "{10,9}", "{64}", "{0,64}", "{100}", "{-1}", "{-0}", "{-1,0}", "{00}", "{01}", "{1,02}", "{+1}", "{0,+1}", "{,}", "{0,}", "{,0}", "{0,,1}", "{,,}", "{ }", "{0, 1}", "{0 1}", "{ 0}", "{0 }",
	"{0;1}", "{0.1}", "{0-1}", "{a}", "{#0}", "{0,#1}", "{0x1}", "{1_0}", "{1e1}", "{", "}", "{}{}", "{{}}", "{{0}}", "{0}}", "{{0}", "}{", "}0{", "{0}{1}", "{0},", ",{0}", "{0},{1}", "{0,1", "0,1}", "0", "0,1", "()", "[]", "(0)", "{0};", "{}x", "x{}", "{\u0661}", "{18446744073709551616}", "{18446744073709551617}", "{-18446744073709551615}", "{256}", "{320}", "{4294967296}",
	"{0\x00}", "{0,1,}", "{" + strings.Repeat("0,", 5000) + "0}", "{" + strings.Repeat("9", 5000) + "}",
}

// wrongHeads are heads in which a word is missing, one is there twice, or two are changed about.
func wrongHeads() []string {
	var l []string
	words := strings.Fields("func {1} params {2} results {3} locals 4 stack 5")
	for k, word := range words {
		without := slices.Delete(slices.Clone(words), k, k+1)
		// Without one of its Params or its Results the head is in order.
		if k != 3 && k != 5 {
			l = append(l, strings.Join(without, " "))
			l = append(l, strings.Join(slices.Insert(slices.Clone(words), k, word), " "))
		}
		for _, other := range []string{"x", "end", ";", "param", "result", "local", "stacks", "func", "-1"} {
			l = append(l, strings.Join(slices.Insert(slices.Clone(words), k+1, other), " "))
			changed := slices.Clone(words)
			changed[k] = other
			// The line is passed over, if it begins so.
			if other != ";" || k > 0 {
				l = append(l, strings.Join(changed, " "))
			}
		}
		for j := range k {
			changed := slices.Clone(words)
			changed[k], changed[j] = changed[j], changed[k]
			// Labels or numbers changed about make another head, and so does a label that goes to the other list.
			if alike := word[0] == '{' && words[j][0] == '{' || k == 9 && j == 7; !alike && !(k == 4 && j == 3) && !(k == 5 && j == 4) {
				l = append(l, strings.Join(changed, " "))
			}
		}
	}
	for k := range words {
		l = append(l, strings.Join(words[:k+1], " "), strings.Join(words[k:], " "))
	}
	l = slices.DeleteFunc(l, func(line string) bool { return line == strings.Join(words, " ") })
	return append(l, "func params results locals 0 stack 0", "func {} {} params results locals 0 stack 0", "func {} params 0 results locals 0 stack 0", "func {} params results locals 0 stack 0 end", "func {} params, results locals 0 stack 0",
		"func {} params results locals 0 stack 0 0", "func {} params results locals stack 0", "func {} params results locals 0 stack", "func f {} params results locals 0 stack 0", "func {} results params locals 0 stack 0", "func {} params results stack 0 locals 0")
}

func TestWrongLines(t *testing.T) { // P11.2, P11.5
	for _, line := range wrongLines() {
		for _, behind := range []string{"", "\n", "\nend", "\n" + line, "\nglobal {}\nend\n", "\n" + plainHead} {
			wantWrong(t, line+behind, 1)
			wantWrong(t, "\n"+line+behind, 2)
			wantWrong(t, plainHead+line+behind, 2)
			wantWrong(t, "; a\n\n\t\n"+plainHead+"nop\n; b\n \n  "+line+"\t"+behind, 8)
			wantWrong(t, plainHead+"end\nglobal {}\n"+line+behind, 4)
		}
	}
}

// TestWhereLinesStand has each line of the table where it may stand and where it may not.
func TestWhereLinesStand(t *testing.T) { // P11.2
	outside := []string{"global {}", "global {0,63}", "channel {}", "channel {5}", "array 0 {}", "array 7 {1,2}"}
	for _, line := range append(outside, strings.TrimSuffix(plainHead, "\n"), "func {0} params {} {1} results {2} locals 3 stack 4") {
		wantWrong(t, plainHead+line, 2)
		wantWrong(t, plainHead+line+"\nend", 2)
		wantWrong(t, plainHead+"nop\n"+line+"\nend", 3)
		wantWrong(t, plainHead+"end\n"+plainHead+line+"\nend", 4)
	}
	for _, line := range outside {
		for _, text := range []string{line, line + "\n", line + "\n" + plainHead + "end", plainHead + "end\n" + line} {
			m, number, err := asm.Parse(text)
			if want, _, _ := modelParse(text); number != 0 || err != api.OK || !same(m, want) || len(m.Globals)+len(m.Channels)+len(m.Arrays) != 1 {
				t.Errorf("Parse of %q = %d at %d, %+v", text, err, number, m)
			}
		}
	}
	for _, name := range sortedNames {
		line := name
		if names[name].operand != noOperand {
			line += " 5"
		}
		wantWrong(t, line, 1)
		wantWrong(t, line+"\nend", 1)
		wantWrong(t, line+"\n"+plainHead, 1)
		wantWrong(t, "global {}\n"+line, 2)
		wantWrong(t, plainHead+"end\n"+line, 3)
		wantWrong(t, plainHead+line+"\nend\n"+line, 4)
		i := api.Instr{Op: names[name].op}
		if names[name].operand != noOperand {
			i.A = 5
		}
		wantModule(t, plainHead+line+"\n"+line+"\nend", api.Module{Funcs: []api.Function{{Code: []api.Instr{i, i}}}})
		// An operand is there just if the instruction has one.
		if names[name].operand == noOperand {
			wantWrong(t, plainHead+line+" 0\nend", 2)
		} else {
			wantWrong(t, plainHead+name+"\nend", 2)
			wantWrong(t, plainHead+line+" 0\nend", 2)
		}
	}
	wantWrong(t, "end", 1)
	wantWrong(t, "end\n", 1)
	wantWrong(t, "\nend\n"+plainHead, 2)
	wantWrong(t, plainHead+"end\nend", 3)
	wantWrong(t, plainHead+"end\n\nglobal {}\nend\n", 5)
}

func TestNumbers(t *testing.T) { // P11.2
	for word, n := range map[string]int64{"0": 0, "1": 1, "9": 9, "10": 10, "100": 100, "4294967296": 1 << 32, "9223372036854775807": 1<<63 - 1} {
		wantModule(t, "array "+word+" {}", api.Module{Arrays: []api.Array{{Len: int(n)}}})
		wantModule(t, "func {} params results locals "+word+" stack 0\nend", api.Module{Funcs: []api.Function{{Locals: int(n)}}})
		wantModule(t, "func {} params results locals 0 stack "+word+"\nend", api.Module{Funcs: []api.Function{{Stack: int(n)}}})
		for _, name := range sortedNames {
			i := api.Instr{Op: names[name].op, A: n}
			if names[name].operand != noOperand {
				wantModule(t, plainHead+name+" "+word+"\nend", api.Module{Funcs: []api.Function{{Code: []api.Instr{i}}}})
			} else {
				wantWrong(t, plainHead+name+" "+word+"\nend", 2)
			}
		}
	}
	for word, n := range map[string]int64{"-1": -1, "-9": -9, "-10": -10, "-4294967296": -1 << 32, "-9223372036854775807": -1<<63 + 1, "-9223372036854775808": -1 << 63} {
		wantWrong(t, "array "+word+" {}", 1)
		wantWrong(t, "func {} params results locals "+word+" stack 0\nend", 1)
		wantWrong(t, "func {} params results locals 0 stack "+word+"\nend", 1)
		for _, name := range sortedNames {
			if name == "const" {
				wantModule(t, plainHead+"const "+word+"\nend", api.Module{Funcs: []api.Function{{Code: []api.Instr{{Op: api.InConst, A: n}}}}})
			} else {
				wantWrong(t, plainHead+name+" "+word+"\nend", 2)
			}
		}
	}
}

// TestBlanks has each byte, and each two of some, where a blank may stand, and where one must.
func TestBlanks(t *testing.T) { // P11.2
	one := api.Module{Arrays: []api.Array{{Len: 1}}}
	for c := range 256 {
		b := string([]byte{byte(c)})
		texts := []string{"array" + b + "1 {}", "array 1" + b + "{}"}
		around := []string{b + "array 1 {}", "array 1 {}" + b, "array " + b + "1 {}", "array 1" + b + " {}"}
		switch c {
		case '\t', ' ':
			for _, text := range append(texts, around...) {
				wantModule(t, text, one)
			}
		case '\n':
			for _, text := range texts {
				wantWrong(t, text, 1)
			}
			wantModule(t, around[0], one)
			wantModule(t, around[1], one)
		default:
			for _, text := range texts {
				wantWrong(t, text, 1)
			}
			for _, text := range around {
				// A whole line may be passed over, and a number have a digit more.
				wantModel(t, text)
			}
		}
		if c != '\t' && c != ' ' && c != '\n' && c != ';' {
			wantWrong(t, around[0], 1)
			wantWrong(t, around[1], 1)
			wantWrong(t, b, 1)
			wantWrong(t, b+"; a remark", 1)
		}
	}
	wantModule(t, strings.Repeat(" \t", 99)+"array\t \t1\t\t{}"+strings.Repeat("\t", 99), one)
	wantModule(t, "\t \n \n\n\t\n\tarray 1 {}\n\n\n ", one)
}

func TestRemarks(t *testing.T) { // P11.2
	one := api.Module{Funcs: []api.Function{{Code: []api.Instr{{Op: api.InReturn}}}}}
	for _, remark := range []string{";", "; a", ";;", " ;", "\t;\t;", ";end", ";end ;", "; \xff\x00\r", ";" + strings.Repeat(" ", 999), ";{}", ";\v\f", ";-1"} {
		wantModule(t, remark+"\n"+plainHead+remark+"\nreturn\n"+remark+"\nend\n"+remark, one)
		// Behind a word it is no remark.
		wantWrong(t, plainHead+"return "+remark+"\nend", 2)
		wantWrong(t, plainHead+"return\nend "+remark, 3)
		wantWrong(t, "global {} "+remark, 1)
	}
}

func TestEndsWithinAFunction(t *testing.T) { // P11.2
	for _, c := range []struct {
		text string
		line int
	}{
		{strings.TrimSuffix(plainHead, "\n"), 1}, {plainHead, 2}, {plainHead + "\n", 3}, {plainHead + "\n\n; a", 4}, {plainHead + "\n\n; a\n", 5},
		{plainHead + "return", 2}, {plainHead + "return\n", 3}, {plainHead + "return\n ", 3}, {plainHead + "return\n \n", 4},
		{plainHead + "end\n" + plainHead + ";end", 4}, {plainHead + "end\n" + plainHead + ";end\n", 5}, {"\n\nglobal {}\n" + plainHead + "nop\nnop", 6},
		{plainHead + strings.Repeat("\n", 1000), 1002}, {plainHead + strings.Repeat("nop\n", 1000), 1002}, {plainHead + strings.Repeat("nop\n", 1000) + "nop", 1002},
	} {
		wantWrong(t, c.text, c.line)
	}
}

func TestLongTexts(t *testing.T) { // P11.2
	// Wrong or not, a text that is too long has no line.
	for _, piece := range []string{" ", "\n", ";", "end\n", "x", "global {}\n", "\xff", "{", plainHead} {
		for _, size := range []int{1, 2, 5000, api.MaxImage} {
			text := strings.Repeat(piece, 2*api.MaxImage)[:api.MaxImage+size]
			if m, line, err := asm.Parse(text); !same(m, api.Module{}) || line != 0 || err != api.ErrLong {
				t.Errorf("Parse of %d bytes = %d at %d", len(text), err, line)
			}
		}
	}
	fill := func(text string, with string) string {
		return text + strings.Repeat(with, api.MaxImage)[:api.MaxImage-len(text)]
	}
	for _, with := range []string{" ", "\n", ";", "\n;", "\n\t"} {
		wantModule(t, fill("", with), api.Module{})
		if with != ";" {
			wantModule(t, fill("global {7}", with), api.Module{Globals: []api.Label{1 << 7}})
		}
	}
	wantWrong(t, fill("", "x"), 1)
	wantWrong(t, fill("", "\n")[1:]+"x", api.MaxImage)
	wantWrong(t, fill(plainHead, "\n"), api.MaxImage-len(plainHead)+2)
	wantWrong(t, fill("global {", "0,"), 1)
	wantWrong(t, fill("global {", "1"), 1)
	wantWrong(t, fill("global ", "{} "), 1)
	wantWrong(t, fill("array ", "9"), 1)
	wantWrong(t, fill("func {} params ", "{} "), 1)
	for _, c := range []struct {
		head, with, end string
		of              func(count int) api.Module
	}{
		{"", "global {}\n", "", func(count int) api.Module { return api.Module{Globals: make([]api.Label, count)} }},
		{"", plainHead + "end\n", "", func(count int) api.Module { return api.Module{Funcs: make([]api.Function, count)} }},
		{"func {} params", " {}", " results locals 0 stack 0\nend", func(count int) api.Module {
			return api.Module{Funcs: []api.Function{{Params: make([]api.Label, count)}}}
		}},
		{plainHead, "or\n", "end", func(count int) api.Module {
			return api.Module{Funcs: []api.Function{{Code: slices.Repeat([]api.Instr{{Op: api.OpOr}}, count)}}}
		}},
	} {
		count := (api.MaxImage - len(c.head) - len(c.end)) / len(c.with)
		text := c.head + strings.Repeat(c.with, count) + c.end
		wantModule(t, text+strings.Repeat(" ", api.MaxImage-len(text)), c.of(count))
	}
}

// TestChangedTexts holds what is answered of texts that are near to a module's against the forms.
func TestChangedTexts(t *testing.T) { // P11.2
	r := rand.New(rand.NewSource(1104))
	right, wrong := 0, 0
	for range 20000 {
		want, _ := modelText(someModule(r))
		text := loosened(r, want)
		for range r.Intn(3) {
			text = changed(r, text)
		}
		wantModel(t, text)
		if _, _, err := asm.Parse(text); err == api.OK {
			right++
		} else {
			wrong++
		}
	}
	if right < 5000 || wrong < 5000 {
		t.Errorf("%d right and %d wrong texts", right, wrong)
	}
}

// changed is a text with a piece left out, told twice, put in, or changed about with another one.
func changed(r *rand.Rand, text string) string {
	at := r.Intn(len(text) + 1)
	to := min(len(text), at+r.Intn(4))
	pieces := []string{" ", "\t", "\n", ";", "{", "}", ",", "0", "1", "-", "63", "64", "{}", "{1}", "end", "end\n", "nop\n", "add", "const ", "global ", "global {}\n", "array 1 {}\n", "func ", "params", "locals 0 ", "\r", "\xff", plainHead}
	switch r.Intn(6) {
	case 0:
		return text[:at] + text[to:]
	case 1:
		return text[:to] + text[at:]
	case 2:
		return text[:at] + pieces[r.Intn(len(pieces))] + text[to:]
	case 3:
		return text[:at] + pieces[r.Intn(len(pieces))] + text[at:]
	case 4:
		return text[:at]
	}
	lines := strings.Split(text, "\n")
	a, b := r.Intn(len(lines)), r.Intn(len(lines))
	lines[a], lines[b] = lines[b], lines[a]
	return strings.Join(lines, "\n")
}

// loosened is a module's text with other blanks, with empty lines and remarks, and with the tables' lines between the functions.
func loosened(r *rand.Rand, text string) string {
	var b strings.Builder
	for _, line := range moved(r, strings.Split(strings.TrimSuffix(text, "\n"), "\n")) {
		for r.Intn(4) == 0 {
			b.WriteString([]string{"", " ", "\t", ";", "; end", " \t;global {2,0}", ";\r", ";;"}[r.Intn(8)] + "\n")
		}
		for _, word := range strings.Fields(line) {
			b.WriteString(blanks(r, 0) + word + blanks(r, 1))
		}
		b.WriteString("\n")
	}
	if r.Intn(3) == 0 {
		return strings.TrimSuffix(b.String(), "\n")
	}
	return b.String()
}

func blanks(r *rand.Rand, least int) string {
	text := ""
	for range least + r.Intn(3)*r.Intn(2) {
		text += []string{" ", "\t"}[r.Intn(2)]
	}
	return text
}

// moved are the lines of a module's text with functions between those of the tables, each sort in its order.
func moved(r *rand.Rand, lines []string) []string {
	// What goes as one piece: lines of one sort of table, and functions, each of them whole.
	sorts := map[string][]string{}
	inside := false
	for _, line := range lines {
		switch sort := strings.SplitN(line, " ", 2)[0]; {
		case inside:
			last := sorts["func"]
			last[len(last)-1] += "\n" + line
			inside = line != "end"
		default:
			sorts[sort] = append(sorts[sort], line)
			inside = sort == "func"
		}
	}
	var all []string
	for keys := []string{"global", "array", "channel", "func", ""}; len(keys) > 0; {
		k := r.Intn(len(keys))
		if len(sorts[keys[k]]) == 0 {
			keys = slices.Delete(keys, k, k+1)
			continue
		}
		all = append(all, strings.Split(sorts[keys[k]][0], "\n")...)
		sorts[keys[k]] = sorts[keys[k]][1:]
	}
	return all
}

func TestLoosenedTexts(t *testing.T) { // P11.4
	r := rand.New(rand.NewSource(1105))
	for range 5000 {
		m := someModule(r)
		want, _ := modelText(m)
		text := loosened(r, want)
		wantModule(t, text, m)
		read, _, _ := asm.Parse(text)
		wantText(t, read, want, api.OK)
	}
}

// TestTablesBetweenFunctions has one sort after the other come up in each order.
func TestTablesBetweenFunctions(t *testing.T) { // P11.4
	pieces := []string{"global {1}\nglobal {2}\n", "array 3 {3}\narray 4 {}\n", "channel {4}\n", plainHead + "return\nend\n", "func {5} params results locals 0 stack 0\nend\n"}
	want := api.Module{
		Globals: []api.Label{2, 4}, Arrays: []api.Array{{Len: 3, Label: 8}, {Len: 4}}, Channels: []api.Label{16},
		Funcs: []api.Function{{Code: []api.Instr{{Op: api.InReturn}}}, {Level: 32}},
	}
	var goOn func(text string, left []int)
	goOn = func(text string, left []int) {
		if len(left) == 0 {
			wantModule(t, text, want)
		}
		for k, i := range left {
			// The second function stays behind the first one.
			if i != 4 || !slices.Contains(left, 3) {
				goOn(text+pieces[i], slices.Delete(slices.Clone(left), k, k+1))
			}
		}
	}
	goOn("", []int{0, 1, 2, 3, 4})
	wantModule(t, "global {2}\n"+plainHead+"end\nglobal {1}\n"+plainHead+"end\nglobal {0}", api.Module{Globals: []api.Label{4, 2, 1}, Funcs: make([]api.Function, 2)})
}

// TestBehindAWrongLine puts all sorts of things behind a wrong line.
func TestBehindAWrongLine(t *testing.T) { // P11.5
	r := rand.New(rand.NewSource(1106))
	tried := 0
	for range 3000 {
		made, _ := modelText(someModule(r))
		text := changed(r, loosened(r, made))
		_, line, err := asm.Parse(text)
		lines := strings.Split(text, "\n")
		// At the last line it may be the end that is wrong.
		if err != api.ErrAsm || line == len(lines) {
			continue
		}
		tried++
		ahead := strings.Join(lines[:line], "\n")
		wantWrong(t, ahead+"\n", line)
		for range 4 {
			other, _ := modelText(someModule(r))
			wantWrong(t, ahead+"\n"+changed(r, other), line)
		}
		wantWrong(t, ahead+"\nend\n"+ahead, line)
		wantWrong(t, ahead+"\n\x00\xff", line)
	}
	if tried < 300 {
		t.Errorf("%d wrong texts", tried)
	}
}
