package interp

import (
	"strings"

	"turnkey/api"
	"turnkey/arith"
	"turnkey/expand"
	"turnkey/field"
	"turnkey/num"
	"turnkey/param"
)

// usualIfs separates fields if IFS is not set.
const usualIfs = " \t\n"

// fields returns the fields of several words.
func (r *run) fields(words [][]api.Part) []string {
	var out []string
	for _, w := range words {
		for _, f := range field.Split(r.pieces(w), r.ifs()) {
			added := []string{field.Text(f)}
			if field.Special(f) {
				added = r.pathnames(f)
			}
			out = append(out, added...)
			r.limit(len(out), added)
			if !r.running() {
				return nil
			}
		}
		if !r.running() {
			return nil
		}
	}
	return out
}

// limit stops the shell if there are too many fields, or some are too long.
func (r *run) limit(count int, added []string) {
	if count > api.MaxFields {
		r.stop(api.ErrLimit)
	}
	for _, s := range added {
		if len(s) > api.MaxValue {
			r.stop(api.ErrLimit)
		}
	}
}

// ifs returns the bytes that separate fields.
func (r *run) ifs() string {
	if ifs, set := param.Get(r.Vars, "IFS"); set {
		return ifs
	}
	return usualIfs
}

// text returns the text of a word's pieces.
func (r *run) text(w []api.Part) string { return field.Text(r.pieces(w)) }

// pieces expands the parts of a word, or returns nothing if the shell does not go on.
func (r *run) pieces(w []api.Part) []api.Piece {
	var out []api.Piece
	for i := range w {
		if !r.running() {
			return nil
		}
		if i == 0 {
			out = r.first(&w[i])
		} else {
			out = append(out, r.part(&w[i])...)
		}
	}
	if !r.running() {
		return nil
	}
	return out
}

// first expands the first part of a word, which may begin with a tilde.
func (r *run) first(p *api.Part) []api.Piece {
	home, set := param.Get(r.Vars, "HOME")
	if p.Kind != api.PartText || p.Quoted || !set {
		return r.part(p)
	}
	rest := expand.Tilde(p.Text, "")
	if rest == p.Text {
		return r.part(p)
	}
	return []api.Piece{{Text: home, Quoted: true}, {Text: rest}}
}

// part expands a part.
func (r *run) part(p *api.Part) []api.Piece {
	switch p.Kind {
	case api.PartText:
		return []api.Piece{{Text: p.Text, Quoted: p.Quoted}}
	case api.PartParam:
		return r.parameter(p)
	case api.PartCmd:
		return r.substitution(p)
	case api.PartArith:
		return r.arithmetic(p)
	}
	return nil
}

// single returns the piece that an expansion results in.
func single(p *api.Part, text string) []api.Piece {
	return []api.Piece{{Text: text, Quoted: p.Quoted, Soft: !p.Quoted}}
}

// substitution executes commands and returns what they write.
func (r *run) substitution(p *api.Part) []api.Piece {
	out := r.Out
	r.Out, r.Status = nil, 0
	r.subshell(func() {
		r.Fds[1] = api.Captured
		r.all(p.Cmd)
	})
	text := strings.ReplaceAll(strings.TrimRight(string(r.Out), "\n"), "\x00", "")
	r.Out, r.Sub = out, r.Status
	return single(p, text)
}

// arithmetic evaluates an expression.
func (r *run) arithmetic(p *api.Part) []api.Piece {
	text := r.text(p.Word)
	if !r.running() {
		return nil
	}
	var vars []string
	for _, v := range r.Vars {
		vars = append(vars, v.Name+"="+v.Value)
	}
	n, e := arith.Eval(text, vars)
	if e != api.OK {
		r.fatal("arithmetic", e)
		return nil
	}
	return single(p, num.Dec(n))
}

// parameter expands a parameter.
func (r *run) parameter(p *api.Part) []api.Piece {
	value, set := param.Param(r.Vars, r.Args, r.Zero, r.Status, p.Text)
	all := p.Text == "@" || p.Text == "*"
	switch strings.TrimPrefix(p.Op, ":") {
	case "":
		if p.Text == "@" || p.Text == "*" && !p.Quoted {
			return r.arguments(p)
		}
	case "length":
		n := param.Length(value)
		if all {
			n = len(r.Args)
		}
		return single(p, num.Dec(n))
	case "%", "%%", "#", "##":
		return single(p, param.Cut(value, p.Op, field.Pattern(r.pieces(p.Word))))
	case "-", "=", "?", "+":
		if strings.HasPrefix(p.Op, ":") {
			set = set && value != ""
		}
		return r.conditional(p, value, set)
	}
	return single(p, value)
}

// arguments returns a piece for each argument.
func (r *run) arguments(p *api.Part) []api.Piece {
	var out []api.Piece
	for i, a := range r.Args {
		out = append(out, api.Piece{Text: a, Quoted: p.Quoted, Soft: !p.Quoted, Gap: i > 0})
	}
	return out
}

// conditional expands a parameter that is replaced unless it is set, or if it is.
func (r *run) conditional(p *api.Part, value string, set bool) []api.Piece {
	op := strings.TrimPrefix(p.Op, ":")
	if set != (op == "+") {
		if op == "+" {
			value = ""
		}
		return single(p, value)
	}
	pieces := r.pieces(p.Word)
	if !r.running() {
		return nil
	}
	text := field.Text(pieces)
	switch op {
	case "=":
		vars, e := param.Set(r.Vars, p.Text, text)
		if e != api.OK {
			r.fatal(p.Text, e)
			return nil
		}
		r.Vars = vars
		return single(p, text)
	case "?":
		if text == "" {
			text = "not set"
		}
		r.message(p.Text, text)
		r.Status, r.Exit = 1, true
		return nil
	}
	return replacement(p, pieces)
}

// replacement returns the pieces that a parameter is replaced by.
func replacement(p *api.Part, pieces []api.Piece) []api.Piece {
	if p.Quoted && len(pieces) == 0 {
		return single(p, "")
	}
	for i := range pieces {
		pieces[i].Quoted = pieces[i].Quoted || p.Quoted
		pieces[i].Soft = !pieces[i].Quoted
	}
	return pieces
}

// pathnames returns the paths that a field matches, or its text if there are none.
func (r *run) pathnames(f []api.Piece) []string {
	parts, rooted := expand.Parts(field.Pattern(f))
	prefixes := []string{""}
	if rooted {
		prefixes[0] = "/"
	}
	last := false
	for _, part := range parts {
		if !r.running() {
			return nil
		}
		var plain string
		if plain, last = expand.Plain(part); last {
			for i, prefix := range prefixes {
				prefixes[i] = expand.Join(prefix, plain)
			}
			continue
		}
		prefixes = r.matches(prefixes, part)
	}
	if last {
		prefixes = r.existing(prefixes)
	}
	if len(prefixes) == 0 {
		return []string{field.Text(f)}
	}
	return prefixes
}

// matches joins each prefix with the names in its directory that a part matches.
func (r *run) matches(prefixes []string, part string) []string {
	var out []string
	for _, prefix := range prefixes {
		if !r.running() {
			return nil
		}
		dir := prefix
		if dir == "" {
			dir = "."
		}
		rep := r.send(api.Req{Op: api.OpReaddir, Path: r.path(dir)})
		for _, name := range expand.Names(part, rep.Names) {
			out = append(out, expand.Join(prefix, name))
		}
		if len(out) > api.MaxFields {
			r.stop(api.ErrLimit)
		}
	}
	return out
}

// existing returns those of the paths at which there is something.
func (r *run) existing(paths []string) []string {
	var out []string
	for _, p := range paths {
		if !r.running() {
			return nil
		}
		if rep := r.send(api.Req{Op: api.OpStat, Path: r.path(p), Flags: 1}); rep.Err == api.OK {
			out = append(out, p)
		}
	}
	return out
}
