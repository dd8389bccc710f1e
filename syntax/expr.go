package syntax

import (
	"slices"

	"louver/api"
	"louver/lex"
	"louver/ops"
)

// lowest is the level of binary operations that bind the most.
const lowest = 5

func (p *parser) exprs(closing string) [][]api.Term {
	var all [][]api.Term
	p.list(closing, func() { all = append(all, p.expr()) })
	return all
}

func (p *parser) expr() []api.Term { return p.within(nil, 0) }

// within reads an expression that stands so deep, and lays its terms behind those that are there.
func (p *parser) within(terms []api.Term, deep int) []api.Term {
	return p.level(0, terms, func(terms []api.Term) []api.Term { return p.unary(terms, deep) })
}

// level reads operations of a level and below; operand reads what stands below all levels.
func (p *parser) level(l int, terms []api.Term, operand func([]api.Term) []api.Term) []api.Term {
	if l > lowest {
		return operand(terms)
	}
	terms = p.level(l+1, terms, operand)
	for {
		op, ok := ops.BySign(p.words[0].Text, 2)
		if !ok || levelOf(op) != l {
			return terms
		}
		p.take()
		terms = p.level(l+1, terms, operand)
		terms = append(terms, api.Term{Kind: api.TBinary, Value: int64(op)})
	}
}

func levelOf(op int) int {
	switch op {
	case api.OpEq, api.OpNe, api.OpLt, api.OpLe:
		return 0
	case api.OpOr, api.OpXor:
		return 1
	case api.OpAnd:
		return 2
	case api.OpShl, api.OpShr:
		return 3
	case api.OpAdd, api.OpSub:
		return 4
	}
	return lowest
}

func (p *parser) unary(terms []api.Term, deep int) []api.Term {
	var found []int
	for op, ok := p.unarySign(); ok; op, ok = p.unarySign() {
		found = append(found, op)
	}
	terms = p.plain(terms, deep)
	for _, op := range slices.Backward(found) {
		terms = append(terms, api.Term{Kind: api.TUnary, Value: int64(op)})
	}
	return terms
}

func (p *parser) unarySign() (int, bool) {
	op, ok := ops.BySign(p.words[0].Text, 1)
	if ok {
		p.take()
	}
	return op, ok
}

func (p *parser) plain(terms []api.Term, deep int) []api.Term {
	switch {
	case p.isKind(lex.Number):
		return append(terms, api.Term{Kind: api.TNumber, Value: p.take().Value})
	case p.is("("):
		return p.bracketed(")", terms, deep)
	}
	name := p.name()
	if p.is("[") {
		terms = p.bracketed("]", terms, deep)
		return append(terms, api.Term{Kind: api.TIndex, Name: name})
	}
	return append(terms, api.Term{Kind: api.TName, Name: name})
}

// bracketed reads from the opening mark on, which the caller has seen.
func (p *parser) bracketed(closing string, terms []api.Term, deep int) []api.Term {
	if deep == api.MaxNest {
		p.fail(api.ErrDeep)
	}
	p.take()
	terms = p.within(terms, deep+1)
	p.want(closing)
	return terms
}
