package asm

import (
	"iter"
	"strconv"
	"strings"

	"louver/api"
	"louver/code"
)

// hasText asks whether a module has none of the things that no line tells.
func hasText(m api.Module) bool {
	for _, a := range m.Arrays {
		if a.Len < 0 {
			return false
		}
	}
	for _, f := range m.Funcs {
		if f.Locals < 0 || f.Stack < 0 {
			return false
		}
		for _, i := range f.Code {
			if !code.May(i) {
				return false
			}
		}
	}
	return true
}

// written tells the lines of a module that has a text.
func written(m api.Module) iter.Seq[string] {
	return func(yield func(string) bool) {
		for _, l := range m.Globals {
			if !yield("global " + Label(l)) {
				return
			}
		}
		for _, a := range m.Arrays {
			if !yield("array " + strconv.Itoa(a.Len) + " " + Label(a.Label)) {
				return
			}
		}
		for _, l := range m.Channels {
			if !yield("channel " + Label(l)) {
				return
			}
		}
		for _, f := range m.Funcs {
			if !tellFunction(f, yield) {
				return
			}
		}
	}
}

// tellFunction answers whether more lines are wanted behind the function's.
func tellFunction(f api.Function, yield func(string) bool) bool {
	if !yield(head(f)) {
		return false
	}
	for _, i := range f.Code {
		words, _ := Line(i)
		if !yield("  " + words) {
			return false
		}
	}
	return yield("end")
}

func head(f api.Function) string {
	return "func " + Label(f.Level) + " params" + list(f.Params) + " results" + list(f.Results) +
		" locals " + strconv.Itoa(f.Locals) + " stack " + strconv.Itoa(f.Stack)
}

// list has a blank ahead of each label's word, so that it may stand behind a word though it be empty.
func list(labels []api.Label) string {
	var b strings.Builder
	// No word is empty, so with as many labels as these the text is too long, whatever stands behind them.
	for _, l := range labels[:min(len(labels), api.MaxImage)] {
		b.WriteByte(' ')
		b.WriteString(Label(l))
	}
	return b.String()
}
