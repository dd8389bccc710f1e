package print

import (
	"slices"
	"strconv"
	"strings"

	"louver/api"
	"louver/lex"
	"louver/ops"
)

// plainLevel is the level of what is no operation.
const plainLevel = 7

// levels stand at the operations' numbers.
var levels = [...]int{
	api.OpEq: 0, api.OpNe: 0, api.OpLt: 0, api.OpLe: 0,
	api.OpOr: 1, api.OpXor: 1,
	api.OpAnd: 2,
	api.OpShl: 3, api.OpShr: 3,
	api.OpAdd: 4, api.OpSub: 4,
	api.OpMul: 5, api.OpDiv: 5, api.OpRem: 5,
	api.OpNeg: 6, api.OpNot: 6, api.OpInv: 6,
}

// levelOf is asked of terms that are good.
func levelOf(t api.Term) int {
	if t.Kind == api.TUnary || t.Kind == api.TBinary {
		return levels[t.Value]
	}
	return plainLevel
}

func whole(l []api.Term) bool {
	values := 0
	for _, t := range l {
		n := wanted(t)
		if !good(t) || values < n {
			return false
		}
		values += 1 - n
	}
	return values == 1
}

// wanted is how many values a term makes its own of.
func wanted(t api.Term) int {
	switch t.Kind {
	case api.TBinary:
		return 2
	case api.TIndex, api.TUnary:
		return 1
	}
	return 0
}

// good asks whether a term has what its kind has, and no more.
func good(t api.Term) bool {
	switch t.Kind {
	case api.TNumber:
		return t.Value >= 0 && t.Name == ""
	case api.TName, api.TIndex:
		return t.Value == 0 && lex.Is(t.Name) == lex.Name
	case api.TUnary, api.TBinary:
		return ops.Arity(int(t.Value)) == wanted(t) && t.Name == ""
	}
	return false
}

// part is a text with its level, or, without a text, an operand that is not told yet: the level is then the least one that needs no brackets there.
type part struct {
	text  string
	level int
}

func told(text string) part { return part{text, plainLevel} }

func operand(least int) part { return part{level: least} }

// textOf tells terms that are whole. It begins with the last one, so that each byte is written once, however deep in the expression it stands.
func textOf(l []api.Term) string {
	row := []part{operand(0)}
	var pieces []string // the text's last one first
	for len(row) > 0 {
		p := row[len(row)-1]
		row = row[:len(row)-1]
		if p != operand(p.level) {
			pieces = append(pieces, p.text)
			continue
		}
		last := len(l) - 1
		row = append(row, bracketed(p.level, l[last])...)
		l = l[:last]
	}
	var b strings.Builder
	for _, text := range slices.Backward(pieces) {
		b.WriteString(text)
	}
	return b.String()
}

func bracketed(least int, t api.Term) []part {
	if levelOf(t) >= least {
		return parts(t)
	}
	return slices.Concat([]part{told("(")}, parts(t), []part{told(")")})
}

// parts are what a term's text is made of, from left to right.
func parts(t api.Term) []part {
	level := levelOf(t)
	switch t.Kind {
	case api.TNumber:
		return []part{told(strconv.FormatInt(t.Value, 10))}
	case api.TName:
		return []part{told(t.Name)}
	case api.TIndex:
		return []part{told(t.Name), told("["), operand(0), told("]")}
	}
	sign := told(ops.Sign(int(t.Value)))
	if t.Kind == api.TUnary {
		return []part{sign, operand(level)}
	}
	// Operations of one level are taken from the left, so that only the left operand may be of it.
	return []part{operand(level), told(" "), sign, told(" "), operand(level + 1)}
}
