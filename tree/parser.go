package tree

import (
	"strings"

	"turnkey/api"
	"turnkey/lex"
)

// node is a command whose words are still as they are written. It is entered in its place as soon as it begins, so that what was read before a fault is there.
type node struct {
	kind     int
	at       int
	not      bool
	in       bool
	name     string
	elements []element // of a simple command, or the words of a for or a case
	items    []item
	kids     []*node
	redirs   []element // of a compound command
}

// item is a branch of a case.
type item struct {
	at       int
	patterns []element
	body     *node
}

// element is a word or a redirection, and where it begins.
type element struct {
	at   int
	op   string // of a redirection
	fd   int
	word api.Tok // no token if it is missing
}

// parser is a list of tokens while it is parsed.
type parser struct {
	toks []api.Tok
	at   int
}

// tok returns the next token. The last one stays the next one.
func (p *parser) tok() api.Tok { return p.toks[p.at] }

// next passes over a token.
func (p *parser) next() api.Tok {
	t := p.tok()
	if t.Kind != api.TokEnd {
		p.at++
	}
	return t
}

func (p *parser) fail() { raise(api.ErrSyntax, p.tok().At) }

// is reports whether the next token is an operator.
func (p *parser) is(op string) bool { return p.tok().Kind == api.TokOp && p.tok().Text == op }

// reads reports whether the next token is a word of that text.
func (p *parser) reads(text string) bool {
	return p.tok().Kind == api.TokWord && p.tok().Text == text
}

// op passes over an operator that must be there.
func (p *parser) op(op string) {
	if !p.is(op) {
		p.fail()
	}
	p.next()
}

// reserved passes over a reserved word that must be there.
func (p *parser) reserved(text string) {
	if !p.reads(text) {
		p.fail()
	}
	p.next()
}

// lines passes over line feeds.
func (p *parser) lines() {
	for p.tok().Kind == api.TokLine {
		p.next()
	}
}

// word returns a word that must be there.
func (p *parser) word() api.Tok {
	if p.tok().Kind != api.TokWord {
		p.fail()
	}
	return p.next()
}

// program parses all tokens.
func (p *parser) program(slot **node) {
	p.lines()
	if p.tok().Kind != api.TokEnd {
		p.list(slot)
	}
	if p.tok().Kind != api.TokEnd {
		p.fail()
	}
}

// list parses a list.
func (p *parser) list(slot **node) {
	p.lines()
	p.sequence(slot, api.CmdList, p.andor, p.separator)
}

// andor parses pipelines that depend on one another.
func (p *parser) andor(slot **node) {
	p.pipeline(slot)
	for p.is("&&") || p.is("||") {
		kind := api.CmdAnd
		if p.next().Text == "||" {
			kind = api.CmdOr
		}
		wrap(slot, kind)
		p.lines()
		p.pipeline((*slot).kid())
	}
}

// pipeline parses a pipeline.
func (p *parser) pipeline(slot **node) {
	if !p.reads("!") {
		p.sequence(slot, api.CmdPipe, p.command, p.bar)
		return
	}
	n := &node{kind: api.CmdPipe, at: p.next().At, not: true}
	*slot = n
	p.command(n.kid())
	for p.bar() {
		p.command(n.kid())
	}
}

// sequence parses one or more of what one parses; if more passes over what stands between two, the result is a command of a kind.
func (p *parser) sequence(slot **node, kind int, one func(**node), more func() bool) {
	one(slot)
	if !more() {
		return
	}
	wrap(slot, kind)
	n := *slot
	one(n.kid())
	for more() {
		one(n.kid())
	}
}

// separator passes over what separates andors and reports whether one follows.
func (p *parser) separator() bool {
	if p.is(";") {
		p.next()
	} else if p.tok().Kind != api.TokLine {
		return false
	}
	p.lines()
	return p.begins()
}

// bar passes over what separates the commands of a pipeline.
func (p *parser) bar() bool {
	if !p.is("|") {
		return false
	}
	p.next()
	p.lines()
	return true
}

// begins reports whether a command, or a pipeline, can begin with the next token.
func (p *parser) begins() bool {
	t := p.tok()
	switch t.Kind {
	case api.TokWord:
		return !Reserved(t.Text) || t.Text == "!" || compound(t.Text)
	case api.TokNumber:
		return true
	case api.TokOp:
		return t.Text == "(" || redirection(t.Text)
	}
	return false
}

// compound reports whether a compound command begins with a reserved word.
func compound(text string) bool {
	switch text {
	case "{", "if", "while", "until", "for", "case":
		return true
	}
	return false
}

// redirection reports whether an operator is one of a redirection.
func redirection(op string) bool { return strings.HasPrefix(op, "<") || strings.HasPrefix(op, ">") }

// wrap puts a command around what is in a slot.
func wrap(slot **node, kind int) {
	*slot = &node{kind: kind, at: (*slot).at, kids: []*node{*slot}}
}

// kid returns the slot of one more kid.
func (n *node) kid() **node {
	n.kids = append(n.kids, nil)
	return &n.kids[len(n.kids)-1]
}

// assignment splits a word that begins with a name and an equals sign.
func assignment(text string) (string, string, bool) {
	name, value, ok := strings.Cut(text, "=")
	if !ok || !lex.Name(name) {
		return "", "", false
	}
	return name, value, true
}
