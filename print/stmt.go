package print

import (
	"strings"

	"louver/api"
)

// stmt writes a statement's line so deep: less than 0 is counted where more blocks end than begin, but no line stands so.
func (w *writer) stmt(deep int, s api.Stmt) {
	if s.Kind < api.SAssign || s.Kind > api.SReturn {
		return
	}
	w.word(strings.Repeat(deeper, max(deep, 0)))
	switch s.Kind {
	case api.SAssign:
		w.targets(s)
		w.put(" = ", exprAt(s, 0), ";")
	case api.SStore:
		w.put(s.Name, "[", exprAt(s, 0), "] = ", exprAt(s, 1), ";")
	case api.SSend:
		w.put("send ", s.Name, " ", exprAt(s, 0), ";")
	case api.SCall:
		w.call(s)
	case api.SIf:
		w.put("if ", exprAt(s, 0), " {")
	case api.SElse:
		w.word("} else {")
	case api.SWhile:
		w.put("while ", exprAt(s, 0), " {")
	case api.SEnd:
		w.word("}")
	case api.SReturn:
		w.results(s)
	}
	w.word("\n")
}

func (w *writer) targets(s api.Stmt) { list(w, w.word, s.Targets...) }

func (w *writer) call(s api.Stmt) {
	if len(s.Targets) > 0 {
		w.targets(s)
		w.word(" = ")
	}
	w.put(s.Name, "(")
	list(w, w.expr, s.Exprs...)
	w.word(");")
}

func (w *writer) results(s api.Stmt) {
	w.word("return")
	if len(s.Exprs) > 0 {
		w.word(" ")
		list(w, w.expr, s.Exprs...)
	}
	w.word(";")
}

// exprAt is empty where the statement has no such expression.
func exprAt(s api.Stmt, k int) string {
	if k >= len(s.Exprs) {
		return ""
	}
	text, _ := Expr(s.Exprs[k])
	return text
}
