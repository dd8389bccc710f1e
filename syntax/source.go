package syntax

import (
	"slices"

	"louver/api"
	"louver/bits"
	"louver/lex"
)

func (p *parser) source() api.Source {
	for p.skip("principal") {
		p.principalLine()
	}
	s := api.Source{Principals: p.principals}
	for {
		switch {
		case p.skip("global"):
			s.Globals = append(s.Globals, p.declLine())
		case p.skip("array"):
			s.Arrays = append(s.Arrays, p.arrayLine())
		case p.skip("channel"):
			s.Channels = append(s.Channels, p.declLine())
		case p.skip("func"):
			s.Funcs = append(s.Funcs, p.function())
		default:
			return s
		}
	}
}

func (p *parser) principalLine() {
	p.principal()
	for !p.skip(";") {
		p.principal()
	}
}

func (p *parser) principal() {
	if p.isKind(lex.Name) && len(p.principals) == api.MaxPrincipals {
		p.fail(api.ErrMany)
	}
	p.principals = append(p.principals, p.name())
}

func (p *parser) decl() api.Decl { return api.Decl{Name: p.name(), Label: p.label()} }

func (p *parser) declLine() api.Decl {
	d := p.decl()
	p.want(";")
	return d
}

func (p *parser) arrayLine() api.ArrayDecl {
	a := api.ArrayDecl{Name: p.name(), Len: int(p.wantKind(lex.Number).Value), Label: p.label()}
	p.want(";")
	return a
}

func (p *parser) label() api.Label {
	var l api.Label
	p.want("{")
	for !p.skip("}") {
		l = bits.Join(l, bits.Of(p.member()))
	}
	return l
}

func (p *parser) member() int {
	k := slices.Index(p.principals, p.words[0].Text)
	if p.isKind(lex.Name) && k < 0 {
		p.fail(api.ErrPrincipal)
	}
	p.name()
	return k
}

func (p *parser) function() api.FuncDecl {
	f := api.FuncDecl{Name: p.name(), Level: p.label()}
	p.want("(")
	p.list(")", func() { f.Params = append(f.Params, p.decl()) })
	p.want("(")
	p.list(")", func() { f.Results = append(f.Results, p.label()) })
	p.want("{")
	for p.skip("var") {
		f.Vars = append(f.Vars, p.declLine())
	}
	f.Body = p.stmts(nil, 0)
	p.want("return")
	f.Body = append(f.Body, api.Stmt{Kind: api.SReturn, Exprs: p.exprs(";")})
	p.want("}")
	return f
}
