package tree

import "turnkey/api"

// build returns the command that a node of a depth is. It reads the words in the order of the text.
func build(n *node, depth int) api.Cmd {
	if depth > api.MaxNest {
		raise(api.ErrDeep, n.at)
	}
	c := api.Cmd{Kind: n.kind, Not: n.not, Name: n.name, In: n.in}
	if n.kind == api.CmdSimple {
		buildSimple(&c, n.elements, depth)
		return c
	}
	for i, e := range n.elements {
		limit(i, e.at)
		c.Words = append(c.Words, e.parts(depth))
	}
	for i, it := range n.items {
		limit(i, it.at)
		c.Items = append(c.Items, buildItem(it, depth))
	}
	for _, k := range n.kids {
		if k != nil {
			c.Kids = append(c.Kids, build(k, depth+1))
		}
	}
	for i, e := range n.redirs {
		limit(i, e.at)
		c.Redirs = append(c.Redirs, e.redirection(depth))
	}
	return c
}

// buildSimple sorts the elements of a simple command.
func buildSimple(c *api.Cmd, l []element, depth int) {
	for i, e := range l {
		limit(i, e.at)
		if e.op != "" {
			c.Redirs = append(c.Redirs, e.redirection(depth))
			continue
		}
		name, value, ok := assignment(e.word.Text)
		if ok && len(c.Words) == 0 {
			c.Assigns = append(c.Assigns, api.Assign{Name: name, Word: word(value, depth, e.at)})
			continue
		}
		c.Words = append(c.Words, e.parts(depth))
	}
}

// buildItem returns the branch of a case.
func buildItem(it item, depth int) api.Item {
	var out api.Item
	for i, e := range it.patterns {
		limit(i, e.at)
		out.Patterns = append(out.Patterns, e.parts(depth))
	}
	if it.body != nil {
		out.Body = append(out.Body, build(it.body, depth+1))
	}
	return out
}

// limit raises a fault at an element beyond those that there may be.
func limit(index int, at int) {
	if index >= api.MaxWords {
		raise(api.ErrLimit, at)
	}
}

// parts returns the parts of an element's word.
func (e element) parts(depth int) []api.Part { return word(e.word.Text, depth, e.word.At) }

// redirection returns the redirection that an element is.
func (e element) redirection(depth int) api.Redir {
	r := api.Redir{Fd: e.fd, Op: e.op}
	switch {
	case e.op != "<<":
		r.Word = e.parts(depth)
	case e.word.Quoted:
		r.Word = []api.Part{{Kind: api.PartText, Text: e.word.Doc, Quoted: true}}
	default:
		r.Word = doc(e.word.Doc, depth, e.word.At)
	}
	return r
}
