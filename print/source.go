package print

import (
	"strconv"
	"strings"

	"louver/api"
	"louver/bits"
)

// deeper stands ahead of a line for each block that it is in.
const deeper = "  "

// writer has a source's text, as far as it is not too long.
type writer struct {
	text       strings.Builder
	long       bool
	principals []string
}

func (w *writer) put(texts ...string) {
	for _, text := range texts {
		w.word(text)
	}
}

func (w *writer) word(text string) {
	if w.long || len(text) > api.MaxText-w.text.Len() {
		w.long = true
		return
	}
	w.text.WriteString(text)
}

func (w *writer) label(l api.Label) { w.word(bits.Text(l, w.principals)) }

func (w *writer) decl(d api.Decl) {
	w.put(d.Name, " ")
	w.label(d.Label)
}

func (w *writer) expr(l []api.Term) {
	text, _ := Expr(l)
	w.word(text)
}

// between answers what is to be called ahead of each element of a list.
func (w *writer) between(text string) func() {
	first := true
	return func() {
		if !first {
			w.word(text)
		}
		first = false
	}
}

// each writes items one by one till the text is too long, since no more is asked of it then.
func each[T any](w *writer, apart func(), item func(T), l ...T) {
	for _, x := range l {
		if w.long {
			return
		}
		apart()
		item(x)
	}
}

func list[T any](w *writer, item func(T), l ...T) { each(w, w.between(", "), item, l...) }

func lines[T any](w *writer, item func(T), l ...T) { each(w, func() {}, item, l...) }

func (w *writer) source(s api.Source) {
	if len(s.Principals) > 0 {
		w.word("principal ")
		each(w, w.between(" "), w.word, s.Principals...)
		w.word(";\n")
	}
	lines(w, w.declLine("global "), s.Globals...)
	lines(w, w.arrayLine, s.Arrays...)
	lines(w, w.declLine("channel "), s.Channels...)
	lines(w, w.function, s.Funcs...)
}

func (w *writer) declLine(ahead string) func(api.Decl) {
	return func(d api.Decl) {
		w.word(ahead)
		w.decl(d)
		w.word(";\n")
	}
}

func (w *writer) arrayLine(a api.ArrayDecl) {
	w.put("array ", a.Name, " ", strconv.Itoa(a.Len), " ")
	w.label(a.Label)
	w.word(";\n")
}

func (w *writer) function(f api.FuncDecl) {
	w.word("func ")
	w.decl(api.Decl{Name: f.Name, Label: f.Level})
	w.word(" (")
	list(w, w.decl, f.Params...)
	w.word(") (")
	list(w, w.label, f.Results...)
	w.word(") {\n")
	lines(w, w.declLine(deeper+"var "), f.Vars...)
	w.body(f.Body)
	w.word("}\n")
}

func (w *writer) body(body []api.Stmt) {
	deep := 1 // the function's own block, which one SEnd too many ends
	lines(w, func(s api.Stmt) {
		switch s.Kind {
		case api.SIf, api.SWhile:
			w.stmt(deep, s)
			deep++
		case api.SElse:
			w.stmt(deep-1, s)
		case api.SEnd:
			deep--
			w.stmt(deep, s)
		default:
			w.stmt(deep, s)
		}
	}, body...)
}
