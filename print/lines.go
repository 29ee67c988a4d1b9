package print

import (
	"slices"
	"strings"

	"turnkey/api"
	"turnkey/num"
)

// special lists the bytes that a document has a backslash before.
const special = "$\\`"

// lines prints commands, and the here-documents of redirections at the next end of a line.
type lines struct {
	text
	docs []string
}

// end ends a line.
func (l *lines) end() {
	l.put("\n")
	l.put(l.docs...)
	l.docs = nil
}

// cmd prints a command.
func (l *lines) cmd(c api.Cmd) {
	switch c.Kind {
	case api.CmdSimple:
		l.simple(c)
	case api.CmdPipe:
		if c.Not {
			l.put("! ")
		}
		l.kids(c.Kids, func() { l.put(" | ") })
	case api.CmdAnd:
		l.kids(c.Kids, func() { l.put(" && ") })
	case api.CmdOr:
		l.kids(c.Kids, func() { l.put(" || ") })
	case api.CmdList:
		l.kids(c.Kids, l.end)
	case api.CmdFunc:
		l.put(c.Name, "() ")
		l.kids(c.Kids, func() {})
	default:
		l.compound(c)
		for _, r := range c.Redirs {
			l.put(" ")
			l.redir(r)
		}
	}
}

// kids prints commands and what stands between them.
func (l *lines) kids(kids []api.Cmd, between func()) {
	for i, k := range kids {
		if i > 0 {
			between()
		}
		l.cmd(k)
	}
}

// simple prints a simple command.
func (l *lines) simple(c api.Cmd) {
	space := ""
	next := func() {
		l.put(space)
		space = " "
	}
	for _, a := range c.Assigns {
		next()
		l.put(a.Name, "=")
		l.word(a.Word)
	}
	for _, r := range c.Redirs {
		next()
		l.redir(r)
	}
	for _, w := range c.Words {
		next()
		l.word(w)
	}
}

// compound prints a compound command without its redirections.
func (l *lines) compound(c api.Cmd) {
	switch c.Kind {
	case api.CmdGroup:
		l.sections(c.Kids, "{ ")
		l.put("}")
	case api.CmdSub:
		l.sections(c.Kids, "( ")
		l.put(")")
	case api.CmdIf:
		l.branches(c.Kids)
		l.put("fi")
	case api.CmdWhile:
		word := "while "
		if c.Not {
			word = "until "
		}
		l.sections(c.Kids, word, "do ")
		l.put("done")
	case api.CmdFor:
		l.put("for ", c.Name)
		if c.In {
			l.put(" in")
		}
		for _, w := range c.Words {
			l.put(" ")
			l.word(w)
		}
		l.end()
		l.sections(c.Kids, "do ")
		l.put("done")
	case api.CmdCase:
		l.cases(c)
	}
}

// sections prints commands, each behind a word and with an end of its line.
func (l *lines) sections(kids []api.Cmd, words ...string) {
	for i, word := range words {
		l.put(word)
		if i < len(kids) {
			l.cmd(kids[i])
		}
		l.end()
	}
}

// branches prints conditions and what is done, and what is done else.
func (l *lines) branches(kids []api.Cmd) {
	word := "if "
	for len(kids) > 1 {
		l.sections(kids, word, "then ")
		kids = kids[2:]
		word = "elif "
	}
	if len(kids) > 0 {
		l.sections(kids, "else ")
	}
}

// cases prints a case.
func (l *lines) cases(c api.Cmd) {
	l.put("case ")
	for _, w := range c.Words {
		l.word(w)
	}
	l.put(" in")
	l.end()
	for _, item := range c.Items {
		between := "("
		for _, w := range item.Patterns {
			l.put(between)
			l.word(w)
			between = " | "
		}
		l.put(") ")
		l.kids(item.Body, l.end)
		l.end()
		l.put(";;")
		l.end()
	}
	l.put("esac")
}

// redir prints a redirection. The document of one is printed at the next end of a line.
func (l *lines) redir(r api.Redir) {
	if r.Fd >= 0 {
		l.put(num.Dec(r.Fd))
	}
	l.put(r.Op)
	if r.Op != "<<" {
		l.put(" ")
		l.word(r.Word)
		return
	}
	body, plain := document(r.Word)
	d := delimiter(body)
	l.docs = append(l.docs, body, d, "\n")
	if plain {
		d = Quote(d)
	}
	l.put(d)
}

// document returns the text of a here-document, and whether that stands for itself.
func document(w []api.Part) (string, bool) {
	if len(w) == 1 && w[0].Kind == api.PartText && w[0].Quoted && (w[0].Text == "" || strings.HasSuffix(w[0].Text, "\n")) {
		return w[0].Text, true
	}
	t := text{&strings.Builder{}}
	for _, p := range w {
		if p.Kind == api.PartText {
			t.put(escape(p.Text))
		} else {
			t.part(p)
		}
	}
	if t.out.Len() > 0 && !strings.HasSuffix(t.out.String(), "\n") {
		// The line feed that ends the last line is not one of the document's.
		t.put("\\\n")
	}
	return t.out.String(), false
}

// escape returns a text with a backslash before each special byte.
func escape(s string) string {
	var out strings.Builder
	for i := range len(s) {
		if strings.IndexByte(special, s[i]) >= 0 {
			out.WriteByte('\\')
		}
		out.WriteByte(s[i])
	}
	return out.String()
}

// delimiter returns the shortest run of E that is not a line of a document.
func delimiter(body string) string {
	all := strings.Split(body, "\n")
	d := "E"
	for slices.Contains(all, d) {
		d += "E"
	}
	return d
}
