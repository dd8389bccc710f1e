package syntax

import (
	"louver/api"
	"louver/lex"
)

// stmts reads statements for as long as they come, in a block that is so deep.
func (p *parser) stmts(body []api.Stmt, deep int) []api.Stmt {
	for {
		switch {
		case p.skip("if"):
			body = p.branch(body, deep)
		case p.skip("while"):
			body = p.loop(body, deep)
		case p.skip("send"):
			body = append(body, p.send())
		case p.isKind(lex.Name):
			body = append(body, p.named())
		default:
			return body
		}
	}
}

func (p *parser) branch(body []api.Stmt, deep int) []api.Stmt {
	body = append(body, api.Stmt{Kind: api.SIf, Exprs: [][]api.Term{p.expr()}})
	body = p.block(body, deep)
	if p.skip("else") {
		body = append(body, api.Stmt{Kind: api.SElse})
		body = p.block(body, deep)
	}
	return append(body, api.Stmt{Kind: api.SEnd})
}

func (p *parser) loop(body []api.Stmt, deep int) []api.Stmt {
	body = append(body, api.Stmt{Kind: api.SWhile, Exprs: [][]api.Term{p.expr()}})
	body = p.block(body, deep)
	return append(body, api.Stmt{Kind: api.SEnd})
}

// block reads what stands within the marks, one deeper than where they stand.
func (p *parser) block(body []api.Stmt, deep int) []api.Stmt {
	if p.is("{") && deep == api.MaxNest {
		p.fail(api.ErrDeep)
	}
	p.want("{")
	body = p.stmts(body, deep+1)
	p.want("}")
	return body
}

func (p *parser) send() api.Stmt {
	s := api.Stmt{Kind: api.SSend, Name: p.name(), Exprs: [][]api.Term{p.expr()}}
	p.want(";")
	return s
}

// named reads a statement that begins with a name: what stands behind it tells which one.
func (p *parser) named() api.Stmt {
	name := p.name()
	switch {
	case p.skip("["):
		return p.store(name)
	case p.skip("("):
		return p.call(name, nil)
	}
	targets := []string{name}
	for p.skip(",") {
		targets = append(targets, p.name())
	}
	p.want("=")
	// Several targets take a call alone; one takes what is not begun like a call as well.
	if len(targets) > 1 || p.isKind(lex.Name) && p.words[1].Text == "(" {
		function := p.name()
		p.want("(")
		return p.call(function, targets)
	}
	s := api.Stmt{Kind: api.SAssign, Targets: targets, Exprs: [][]api.Term{p.expr()}}
	p.want(";")
	return s
}

func (p *parser) store(name string) api.Stmt {
	index := p.expr()
	p.want("]")
	p.want("=")
	s := api.Stmt{Kind: api.SStore, Name: name, Exprs: [][]api.Term{index, p.expr()}}
	p.want(";")
	return s
}

func (p *parser) call(function string, targets []string) api.Stmt {
	s := api.Stmt{Kind: api.SCall, Name: function, Targets: targets, Exprs: p.exprs(")")}
	p.want(";")
	return s
}
