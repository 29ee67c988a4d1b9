package tree

import (
	"strings"

	"turnkey/api"
	"turnkey/lex"
)

// opLength is the Op of a parameter's length.
const opLength = "length"

const (
	specials     = "?#@*0123456789" // the parameters of one byte that is not a name
	quotable     = "$\\`"           // what a backslash quotes in a here-document
	quotableText = quotable + `"`   // and in double quotes
)

// ops holds what may be done with a parameter, the longer ones first.
var ops = [...]string{":-", ":=", ":?", ":+", "%%", "##", "-", "=", "?", "+", "%", "#"}

// reader is a word while it is read: its parts so far, the text that is being collected for the next one, its depth and where its faults are.
type reader struct {
	parts  []api.Part
	text   []byte
	quoted bool
	open   bool
	depth  int
	at     int
}

// newReader returns a reader, unless a word of that depth is too deep.
func newReader(depth int, at int) *reader {
	if depth > api.MaxNest {
		raise(api.ErrDeep, at)
	}
	return &reader{depth: depth, at: at}
}

// word parses a word of a depth.
func word(raw string, depth int, at int) []api.Part {
	r := newReader(depth, at)
	passed := 0
	for i := 0; i < len(raw); {
		// Parentheses inside others were passed over with those; to do so again would take long.
		if i >= passed || raw[i] != '(' {
			passed = max(passed, r.skip(raw, i))
		}
		i = r.element(raw, i)
	}
	return r.done()
}

// doc parses a here-document of a depth.
func doc(text string, depth int, at int) []api.Part {
	r := newReader(depth, at)
	r.inside(text, quotable)
	return r.done()
}

// skip returns the end of an element.
func (r *reader) skip(text string, i int) int {
	end, ok := lex.Skip(text, i)
	if !ok {
		raise(api.ErrSyntax, r.at)
	}
	return end
}

// element reads an element outside double quotes and returns where it ends.
func (r *reader) element(raw string, i int) int {
	switch raw[i] {
	case '\\':
		if i+1 == len(raw) || raw[i+1] == '\n' {
			raise(api.ErrSyntax, r.at)
		}
		r.add(true, raw[i+1:i+2])
		return i + 2
	case '\'':
		end := r.skip(raw, i)
		r.add(true, raw[i+1:end-1])
		return end
	case '"':
		end := r.skip(raw, i)
		if !r.inside(raw[i+1:end-1], quotableText) {
			r.add(true, "")
		}
		return end
	case '$':
		return r.dollar(raw, i, false)
	}
	r.add(false, raw[i:i+1])
	return i + 1
}

// inside reads what is inside double quotes or a here-document, where a backslash quotes some bytes, and reports whether there was anything.
func (r *reader) inside(text string, quotes string) bool {
	found := false
	for i := 0; i < len(text); {
		rest := text[i:]
		switch {
		case strings.HasPrefix(rest, "\\\n"):
			i += 2
			continue
		case rest[0] == '\\' && len(rest) > 1 && strings.IndexByte(quotes, rest[1]) >= 0:
			r.add(true, rest[1:2])
			i += 2
		case rest[0] == '$':
			i = r.dollar(text, i, true)
		case rest[0] == 0 || rest[0] == '`':
			raise(api.ErrSyntax, r.at)
		default:
			r.add(true, rest[:1])
			i++
		}
		found = true
	}
	return found
}

// dollar reads what begins with a dollar sign and returns where it ends.
func (r *reader) dollar(text string, i int, quoted bool) int {
	rest := text[i+1:]
	if rest != "" && (rest[0] == '(' || rest[0] == '{') {
		end := r.skip(text, i)
		r.part(r.braced(text[i:end]), quoted)
		return end
	}
	if n := parameter(rest); n > 0 {
		r.part(api.Part{Kind: api.PartParam, Text: rest[:n]}, quoted)
		return i + 1 + n
	}
	r.add(quoted, "$")
	return i + 1
}

// braced returns the part that an element in parentheses or braces is.
func (r *reader) braced(s string) api.Part {
	switch {
	case strings.HasPrefix(s, "$((") && strings.HasSuffix(s, "))"):
		return api.Part{Kind: api.PartArith, Word: word(s[3:len(s)-2], r.depth+1, r.at)}
	case s[1] == '(':
		return api.Part{Kind: api.PartCmd, Cmd: r.command(s[2 : len(s)-1])}
	}
	return r.expansion(s[2 : len(s)-1])
}

// command parses the text of a substituted command, which is a level deeper than the word, and whose commands are a level deeper still.
func (r *reader) command(text string) []api.Cmd {
	if r.depth+1 > api.MaxNest {
		raise(api.ErrDeep, r.at)
	}
	toks, f := lex.Scan(text)
	for _, t := range toks {
		if t.Kind == api.TokOp && t.Text == "<<" {
			raise(api.ErrSyntax, r.at)
		}
	}
	var out []api.Cmd
	if f.Code == api.OK {
		out, f = commands(toks, r.depth+2)
	}
	if f.Code != api.OK {
		raise(f.Code, r.at)
	}
	return out
}

// expansion returns the part that stands in braces.
func (r *reader) expansion(s string) api.Part {
	if name, ok := strings.CutPrefix(s, "#"); ok && name != "" && parameter(name) == len(name) {
		return api.Part{Kind: api.PartParam, Text: name, Op: opLength}
	}
	n := parameter(s)
	if n == 0 {
		raise(api.ErrSyntax, r.at)
	}
	p := api.Part{Kind: api.PartParam, Text: s[:n]}
	if n == len(s) {
		return p
	}
	for _, op := range ops {
		if strings.HasPrefix(s[n:], op) {
			p.Op = op
			p.Word = word(s[n+len(op):], r.depth+1, r.at)
			return p
		}
	}
	raise(api.ErrSyntax, r.at)
	return p
}

// parameter returns the number of bytes of the parameter's name at the beginning of a text.
func parameter(text string) int {
	if text != "" && strings.IndexByte(specials, text[0]) >= 0 {
		return 1
	}
	n := 0
	for n < len(text) && lex.Name(text[:n+1]) {
		n++
	}
	return n
}

// add adds text.
func (r *reader) add(quoted bool, s string) {
	if r.open && r.quoted != quoted {
		r.flush()
	}
	r.open, r.quoted = true, quoted
	r.text = append(r.text, s...)
}

// part adds a part that is not a text.
func (r *reader) part(p api.Part, quoted bool) {
	r.flush()
	p.Quoted = quoted
	r.parts = append(r.parts, p)
}

// flush makes a part of the text that was collected.
func (r *reader) flush() {
	if r.open {
		r.parts = append(r.parts, api.Part{Kind: api.PartText, Text: string(r.text), Quoted: r.quoted})
	}
	r.text, r.open = nil, false
}

// done returns the parts.
func (r *reader) done() []api.Part {
	r.flush()
	return r.parts
}
