package tree

import (
	"turnkey/api"
	"turnkey/lex"
)

// command parses a command.
func (p *parser) command(slot **node) {
	t := p.tok()
	switch {
	case p.compounds():
		p.compound(slot)
	case !p.begins() || p.reads("!"):
		p.fail()
	case t.Kind == api.TokWord && lex.Name(t.Text) && p.opens():
		p.function(slot)
	default:
		p.simple(slot)
	}
}

// compounds reports whether a compound command begins with the next token.
func (p *parser) compounds() bool {
	return p.is("(") || p.tok().Kind == api.TokWord && compound(p.tok().Text)
}

// opens reports whether a parenthesis follows the next token.
func (p *parser) opens() bool {
	t := p.toks[p.at+1]
	return t.Kind == api.TokOp && t.Text == "("
}

// function parses a function definition.
func (p *parser) function(slot **node) {
	n := &node{kind: api.CmdFunc, at: p.tok().At, name: p.next().Text}
	*slot = n
	p.op("(")
	p.op(")")
	p.lines()
	if !p.compounds() {
		p.fail()
	}
	p.compound(n.kid())
}

// simple parses a simple command.
func (p *parser) simple(slot **node) {
	n := &node{kind: api.CmdSimple, at: p.tok().At}
	*slot = n
	for p.tok().Kind == api.TokWord || p.redirects() {
		if p.redirects() {
			p.redirection(&n.elements)
			continue
		}
		t := p.next()
		n.elements = append(n.elements, element{at: t.At, word: t})
	}
}

// redirects reports whether a redirection begins with the next token.
func (p *parser) redirects() bool {
	t := p.tok()
	return t.Kind == api.TokNumber || t.Kind == api.TokOp && redirection(t.Text)
}

// redirection parses a redirection.
func (p *parser) redirection(l *[]element) {
	*l = append(*l, element{at: p.tok().At, fd: -1})
	e := &(*l)[len(*l)-1]
	if t := p.tok(); t.Kind == api.TokNumber {
		if len(t.Text) > 1 {
			p.fail()
		}
		e.fd = int(p.next().Text[0] - '0')
	}
	e.op = p.next().Text
	e.word = p.word()
}

// compound parses a compound command and its redirections.
func (p *parser) compound(slot **node) {
	n := &node{at: p.tok().At}
	*slot = n
	switch p.next().Text {
	case "{":
		n.kind = api.CmdGroup
		p.list(n.kid())
		p.reserved("}")
	case "(":
		n.kind = api.CmdSub
		p.list(n.kid())
		p.op(")")
	case "if":
		n.kind = api.CmdIf
		p.branches(n)
	case "while":
		n.kind = api.CmdWhile
		p.list(n.kid())
		p.body(n)
	case "until":
		n.kind, n.not = api.CmdWhile, true
		p.list(n.kid())
		p.body(n)
	case "for":
		n.kind = api.CmdFor
		p.loop(n)
	case "case":
		n.kind = api.CmdCase
		p.cases(n)
	}
	for p.redirects() {
		p.redirection(&n.redirs)
	}
}

// branches parses an if behind its first word.
func (p *parser) branches(n *node) {
	for {
		p.list(n.kid())
		p.reserved("then")
		p.list(n.kid())
		if !p.reads("elif") {
			break
		}
		p.next()
	}
	if p.reads("else") {
		p.next()
		p.list(n.kid())
	}
	p.reserved("fi")
}

// body parses the body of a loop.
func (p *parser) body(n *node) {
	p.reserved("do")
	p.list(n.kid())
	p.reserved("done")
}

// loop parses a for behind its first word.
func (p *parser) loop(n *node) {
	if !lex.Name(p.tok().Text) {
		p.fail()
	}
	n.name = p.word().Text
	if p.is(";") {
		p.next()
		p.lines()
		p.body(n)
		return
	}
	p.lines()
	if p.reads("in") {
		p.next()
		n.in = true
		for p.tok().Kind == api.TokWord {
			t := p.next()
			n.elements = append(n.elements, element{at: t.At, word: t})
		}
		if !p.is(";") && p.tok().Kind != api.TokLine {
			p.fail()
		}
		p.next()
		p.lines()
	}
	p.body(n)
}

// cases parses a case behind its first word.
func (p *parser) cases(n *node) {
	t := p.word()
	n.elements = append(n.elements, element{at: t.At, word: t})
	p.lines()
	p.reserved("in")
	p.lines()
	for !p.reads("esac") {
		if !p.is("(") && p.tok().Kind != api.TokWord {
			p.fail()
		}
		n.items = append(n.items, item{at: p.tok().At})
		p.item(&n.items[len(n.items)-1])
	}
	p.next()
}

// item parses a branch of a case.
func (p *parser) item(i *item) {
	if p.is("(") {
		p.next()
	}
	at := p.tok().At
	for {
		i.patterns = append(i.patterns, element{at: at})
		i.patterns[len(i.patterns)-1].word = p.word()
		if !p.is("|") {
			break
		}
		at = p.next().At
	}
	p.op(")")
	p.lines()
	if p.begins() {
		p.list(&i.body)
	}
	p.op(";;")
	p.lines()
}
