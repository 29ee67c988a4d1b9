package interp

import (
	"slices"
	"strings"

	"turnkey/api"
	"turnkey/clone"
	"turnkey/field"
	"turnkey/glob"
	"turnkey/lex"
	"turnkey/param"
)

// all executes commands in order.
func (r *run) all(l []api.Cmd) {
	for i := range l {
		r.exec(&l[i])
	}
}

// exec executes a command.
func (r *run) exec(c *api.Cmd) {
	if !r.running() || !r.spend() {
		return
	}
	switch c.Kind {
	case api.CmdSimple:
		r.simple(c, r.await)
	case api.CmdPipe:
		r.pipe(c)
	case api.CmdAnd, api.CmdOr:
		for i := range c.Kids {
			if i == 0 || r.running() && (r.Status == 0) == (c.Kind == api.CmdAnd) {
				r.exec(&c.Kids[i])
			}
		}
	case api.CmdList:
		r.all(c.Kids)
	case api.CmdFunc:
		r.define(c)
	default:
		r.redirected(c.Redirs, func() { r.compound(c) })
	}
}

// compound executes a compound command inside its redirections.
func (r *run) compound(c *api.Cmd) {
	switch c.Kind {
	case api.CmdGroup:
		r.all(c.Kids)
	case api.CmdSub:
		r.subshell(func() { r.all(c.Kids) })
	case api.CmdIf:
		r.branches(c.Kids)
	case api.CmdWhile:
		r.while(c)
	case api.CmdFor:
		r.loop(c)
	case api.CmdCase:
		r.cases(c)
	}
}

// branches executes an if.
func (r *run) branches(kids []api.Cmd) {
	for ; len(kids) > 1; kids = kids[2:] {
		r.exec(&kids[0])
		if !r.running() {
			return
		}
		if r.Status == 0 {
			r.exec(&kids[1])
			return
		}
	}
	if len(kids) == 0 {
		r.Status = 0
	}
	r.all(kids)
}

// while executes a loop with a condition. One that lacks a part of it does nothing.
func (r *run) while(c *api.Cmd) {
	last := 0
	if len(c.Kids) == 2 {
		r.Loops++
		for r.running() {
			again, on := r.turn(&c.Kids[0])
			if again {
				continue
			}
			if !on || (r.Status == 0) == c.Not {
				break
			}
			again, on = r.turn(&c.Kids[1])
			last = r.Status
			if !again && !on {
				break
			}
		}
		r.Loops--
	}
	if r.running() {
		r.Status = last
	}
}

// loop executes a loop over fields.
func (r *run) loop(c *api.Cmd) {
	values := r.Args
	if c.In {
		values = r.fields(c.Words)
	}
	last := 0
	r.Loops++
	for _, value := range values {
		if !r.running() {
			break
		}
		vars, e := param.Set(r.Vars, c.Name, value)
		if e != api.OK {
			r.fatal(c.Name, e)
			break
		}
		r.Vars = vars
		again, on := true, true
		for i := range c.Kids {
			again, on = r.turn(&c.Kids[i])
		}
		last = r.Status
		if !again && !on {
			break
		}
	}
	r.Loops--
	if r.running() {
		r.Status = last
	}
}

// turn executes a command of a loop. It reports whether the loop starts again because of a continue, and whether it goes on as usual.
func (r *run) turn(c *api.Cmd) (bool, bool) {
	r.exec(c)
	if r.Leave == 0 {
		return false, r.running()
	}
	r.Leave--
	if r.Leave == 0 && r.Again {
		r.Again = false
		return true, false
	}
	return false, false
}

// cases executes a case.
func (r *run) cases(c *api.Cmd) {
	text := ""
	for _, w := range c.Words {
		text += r.text(w)
	}
	for _, item := range c.Items {
		for _, w := range item.Patterns {
			pattern := field.Pattern(r.pieces(w))
			if !r.running() {
				return
			}
			if glob.Match(pattern, text) {
				r.Status = 0
				r.all(item.Body)
				return
			}
		}
	}
	if r.running() {
		r.Status = 0
	}
}

// define defines a function.
func (r *run) define(c *api.Cmd) {
	i, found := r.find(c.Name)
	switch {
	case !lex.Name(c.Name):
		r.fail(c.Name, api.ErrArg, 1)
		return
	case !found && len(r.Funcs) >= api.MaxFuncs:
		r.fail(c.Name, api.ErrLimit, 1)
		return
	}
	f := api.Func{Name: c.Name}
	if len(c.Kids) > 0 {
		f.Body = clone.Cmd(c.Kids[0])
	}
	after := r.Funcs[i:]
	if found {
		after = after[1:]
	}
	r.Funcs = slices.Concat(r.Funcs[:i], []api.Func{f}, after)
	r.Status = 0
}

// find returns where a function is, or would be.
func (r *run) find(name string) (int, bool) {
	return slices.BinarySearchFunc(r.Funcs, name, func(f api.Func, s string) int { return strings.Compare(f.Name, s) })
}

// state is what a subshell leaves as it was.
type state struct {
	vars  []api.Var
	args  []string
	cwd   string
	funcs []api.Func
	fds   []int
	loops int
	calls int
	exit  bool
	leave int
	again bool
	back  bool
}

// subshell executes something in a subshell. The lists of a shell are replaced and never changed, but for Fds, which are its own.
func (r *run) subshell(do func()) {
	s := state{r.Vars, r.Args, r.Cwd, r.Funcs, r.Fds, r.Loops, r.Calls, r.Exit, r.Leave, r.Again, r.Back}
	r.Fds = slices.Clone(r.Fds)
	r.Loops = 0
	do()
	r.Vars, r.Args, r.Cwd, r.Funcs, r.Fds = s.vars, s.args, s.cwd, s.funcs, s.fds
	r.Loops, r.Calls, r.Exit, r.Leave, r.Again, r.Back = s.loops, s.calls, s.exit, s.leave, s.again, s.back
}
