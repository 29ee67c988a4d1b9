package interp

import (
	"slices"
	"strings"

	"turnkey/api"
	"turnkey/clone"
	"turnkey/field"
	"turnkey/num"
	"turnkey/param"
	"turnkey/path"
	"turnkey/test"
	"turnkey/tree"
)

// The kinds of builtins.
const (
	ordinary = 1
	special  = 2
)

// bracket is the other name of test, which needs closingBracket as its last argument.
const (
	bracket        = "["
	closingBracket = "]"
)

// builtin is a kind of builtin and what it does with its fields, of which the first is its name.
type builtin struct {
	kind int
	do   func(*run, []string)
}

// builtins returns the builtins.
func builtins() map[string]builtin {
	return map[string]builtin{
		":":        {special, (*run).nothing},
		"break":    {special, (*run).leave},
		"continue": {special, (*run).leave},
		"eval":     {special, (*run).eval},
		"exit":     {special, (*run).exit},
		"export":   {special, (*run).export},
		"return":   {special, (*run).back},
		"set":      {special, (*run).set},
		"shift":    {special, (*run).shift},
		"unset":    {special, (*run).unset},
		"cd":       {ordinary, (*run).cd},
		"echo":     {ordinary, (*run).echo},
		"false":    {ordinary, (*run).lie},
		"pwd":      {ordinary, (*run).pwd},
		"read":     {ordinary, (*run).read},
		"test":     {ordinary, (*run).test},
		"true":     {ordinary, (*run).nothing},
		bracket:    {ordinary, (*run).test},
	}
}

func (r *run) nothing([]string) { r.Status = 0 }

func (r *run) lie([]string) { r.Status = 1 }

func (r *run) echo(fields []string) { r.print(test.Echo(fields[1:])) }

func (r *run) pwd([]string) { r.print(r.Cwd + "\n") }

// print writes to the output.
func (r *run) print(text string) {
	r.Status = 0
	if r.write(1, []byte(text)) != api.OK {
		r.Status = 1
	}
}

// cd changes the directory.
func (r *run) cd(fields []string) {
	target := "/"
	if home, set := param.Get(r.Vars, "HOME"); set {
		target = home
	}
	if len(fields) > 1 {
		target = fields[1]
	}
	where := r.path(target)
	if rep := r.send(api.Req{Op: api.OpChdir, Path: where}); rep.Err != api.OK {
		r.fail(target, rep.Err, 1)
		return
	}
	r.Cwd = path.Clean(where)
	r.Vars, _ = param.Set(r.Vars, "PWD", r.Cwd)
	r.Status = 0
}

// export exports variables, which may be assigned first.
func (r *run) export(fields []string) {
	r.Status = 0
	for _, arg := range fields[1:] {
		name, value, assigns := strings.Cut(arg, "=")
		vars, e := r.Vars, api.OK
		if assigns {
			vars, e = param.Set(vars, name, value)
		}
		if e == api.OK {
			vars, e = param.Export(vars, name)
		}
		if e != api.OK {
			r.fail(arg, e, 1)
			continue
		}
		r.Vars = vars
	}
}

// unset removes variables and functions.
func (r *run) unset(fields []string) {
	r.Status = 0
	for _, name := range fields[1:] {
		r.Vars = param.Unset(r.Vars, name)
		if i, found := r.find(name); found {
			r.Funcs = slices.Concat(r.Funcs[:i], r.Funcs[i+1:])
		}
	}
}

// set replaces the arguments.
func (r *run) set(fields []string) {
	r.Status = 0
	args := fields[1:]
	if len(args) == 0 {
		return
	}
	if args[0] == "--" {
		args = args[1:]
	}
	r.Args = clone.List(args)
}

// shift removes the first arguments.
func (r *run) shift(fields []string) {
	n, ok := integer(fields, 1)
	if !ok || n < 0 || n > len(r.Args) {
		r.Status = 1
		return
	}
	r.Args = clone.List(r.Args[n:])
	r.Status = 0
}

// test evaluates a test.
func (r *run) test(fields []string) {
	name, args := fields[0], fields[1:]
	if name == bracket {
		n := len(args) - 1
		if n < 0 || args[n] != closingBracket {
			r.fail(name, api.ErrInval, 2)
			return
		}
		args = args[:n]
	}
	var kinds []int
	for _, p := range test.Paths(args) {
		q := api.Req{Op: api.OpStat, Path: r.path(p)}
		if args[len(args)-2] == "-h" {
			q.Flags = 1
		}
		kinds = append(kinds, r.send(q).N)
	}
	holds, e := test.Eval(args, kinds)
	switch {
	case e != api.OK:
		r.fail(name, e, 2)
	case holds:
		r.Status = 0
	default:
		r.Status = 1
	}
}

// read reads a line into variables.
func (r *run) read(fields []string) {
	names := fields[1:]
	if len(names) == 0 {
		names = []string{"REPLY"}
	}
	line, ended := r.line()
	if !r.running() {
		return
	}
	r.Status = 1
	if ended {
		r.Status = 0
	}
	for i, word := range field.Line(line, r.ifs(), len(names)) {
		vars, e := param.Set(r.Vars, names[i], word)
		if e != api.OK {
			r.fail(names[i], e, 1)
			return
		}
		r.Vars = vars
	}
}

// line reads bytes up to a line feed, and reports whether there was one.
func (r *run) line() (string, bool) {
	var out []byte
	h := r.Fds[0]
	for h >= 0 && len(out) < api.MaxValue {
		rep := r.send(api.Req{Op: api.OpRead, H: h, N: 1})
		if rep.Err == api.ErrAgain {
			r.pump()
			if r.Stop != api.OK {
				break
			}
			continue
		}
		if rep.Err != api.OK || len(rep.Data) == 0 {
			break
		}
		switch c := rep.Data[0]; c {
		case '\n':
			return string(out), true
		case 0:
		default:
			out = append(out, c)
		}
	}
	return string(out), false
}

// exit ends the shell.
func (r *run) exit(fields []string) {
	r.result(fields)
	r.Exit = true
}

// back ends a function, or the shell outside functions.
func (r *run) back(fields []string) {
	r.result(fields)
	if r.Calls == 0 {
		r.Exit = true
	} else {
		r.Back = true
	}
}

// result sets the Status to an argument, if there is one.
func (r *run) result(fields []string) {
	const codes = maxStatus + 1
	if n, ok := integer(fields, r.Status); ok {
		r.Status = (n%codes + codes) % codes
	}
}

// leave leaves loops, of which the outermost goes on after a continue.
func (r *run) leave(fields []string) {
	r.Status = 0
	n, ok := integer(fields, 1)
	if !ok || n < 1 {
		return
	}
	r.Leave = min(n, r.Loops)
	r.Again = fields[0] == "continue" && r.Leave > 0
}

// eval executes its arguments.
func (r *run) eval(fields []string) {
	l, f := tree.Parse(strings.Join(fields[1:], " "))
	if f.Code != api.OK {
		r.fail("eval", f.Code, 2)
		return
	}
	r.Status = 0
	r.all(l)
}

// integer returns the first argument as an integer, or what is usual without one.
func integer(fields []string, usual int) (int, bool) {
	if len(fields) < 2 {
		return usual, true
	}
	return num.Parse(fields[1])
}
