package asm

import (
	"iter"
	"strconv"
	"strings"

	"louver/api"
	"louver/bits"
	"louver/code"
)

// reader goes through a text's lines and gathers its module; it gives up at the first line that is wrong.
type reader struct {
	next   state
	line   int
	words  []string // those of the line that are to come
	module api.Module
}

// state takes a line, or the text's end, which has no words; it answers what the line behind may be.
type state func(*reader) state

// wrongLine is what a reader throws.
type wrongLine struct{ number int }

// read takes a text whole: its module and 0, or the number of the first wrong line.
func read(text string) (m api.Module, wrong int) {
	defer func() {
		if thrown := recover(); thrown != nil {
			// What is no reader's own value is a fault of the program: it must not look like one of the text.
			wrong = thrown.(wrongLine).number
		}
	}()
	r := reader{next: outside}
	for number, words := range lines(text) {
		r.line, r.words = number, words
		r.next = r.next(&r)
	}
	return r.module, 0
}

// lines tells the number and the words of each line that is not passed over, and then the number of the last line with no words: there the text ends.
func lines(text string) iter.Seq2[int, []string] {
	return func(yield func(int, []string) bool) {
		number := 0
		for line := range strings.SplitSeq(text, lineEnd) {
			number++
			words := strings.FieldsFunc(line, isBlank)
			if !isPassedOver(words) && !yield(number, words) {
				return
			}
		}
		yield(number, nil)
	}
}

// isBlank spells blanks out, since the library's own notion of white space has more of them.
func isBlank(r rune) bool { return r == '\t' || r == ' ' }

func isPassedOver(words []string) bool {
	return len(words) == 0 || strings.HasPrefix(words[0], ";")
}

func outside(r *reader) state {
	if len(r.words) == 0 {
		return outside
	}
	m, next := &r.module, outside
	switch r.take() {
	case "global":
		m.Globals = append(m.Globals, r.label())
	case "array":
		m.Arrays = append(m.Arrays, api.Array{Len: r.size(), Label: r.label()})
	case "channel":
		m.Channels = append(m.Channels, r.label())
	case "func":
		m.Funcs = append(m.Funcs, r.head())
		next = within
	default:
		r.fail()
	}
	r.wantEnd()
	return next
}

// within fails at the text's end, as each line does that lacks a word.
func within(r *reader) state {
	name := r.take()
	if name == "end" {
		r.wantEnd()
		return outside
	}
	f := &r.module.Funcs[len(r.module.Funcs)-1]
	f.Code = append(f.Code, r.instr(name))
	r.wantEnd()
	return within
}

func (r *reader) fail() { panic(wrongLine{r.line}) }

func (r *reader) take() string {
	if len(r.words) == 0 {
		r.fail()
	}
	word := r.words[0]
	r.words = r.words[1:]
	return word
}

func (r *reader) want(word string) {
	if r.take() != word {
		r.fail()
	}
}

func (r *reader) wantEnd() {
	if len(r.words) > 0 {
		r.fail()
	}
}

func (r *reader) head() api.Function {
	var f api.Function
	f.Level = r.label()
	r.want("params")
	f.Params = r.labels()
	r.want("results")
	f.Results = r.labels()
	r.want("locals")
	f.Locals = r.size()
	r.want("stack")
	f.Stack = r.size()
	return f
}

func (r *reader) instr(name string) api.Instr {
	op, ok := code.ByName(name)
	i := api.Instr{Op: op}
	if ok && code.Operand(op) {
		i.A = r.number()
	}
	if !code.May(i) {
		r.fail()
	}
	return i
}

// labels takes as many as there are: no other word of a line begins as a label does.
func (r *reader) labels() []api.Label {
	var all []api.Label
	for len(r.words) > 0 && strings.HasPrefix(r.words[0], "{") {
		all = append(all, r.label())
	}
	return all
}

func (r *reader) label() api.Label {
	word := r.take()
	var l api.Label
	for x := range strings.SplitSeq(strings.Trim(word, "{}"), ",") {
		// What is no principal's number is left out here, and so is missing in the label's own word.
		if k, err := strconv.Atoi(x); err == nil {
			l = bits.Join(l, bits.Of(k))
		}
	}
	if Label(l) != word {
		r.fail()
	}
	return l
}

func (r *reader) size() int {
	n := r.number()
	if n < 0 {
		r.fail()
	}
	return int(n)
}

func (r *reader) number() int64 {
	word := r.take()
	n, err := strconv.ParseInt(word, 10, 64)
	// The library takes other spellings too: only the one that Text writes counts.
	if err != nil || strconv.FormatInt(n, 10) != word {
		r.fail()
	}
	return n
}
