package interp

import (
	"slices"

	"turnkey/api"
	"turnkey/clone"
	"turnkey/param"
)

// simple executes a simple command. If that spawns a child, then says what is done with it.
func (r *run) simple(c *api.Cmd, then func(child)) {
	r.Sub = noSub
	fields := r.fields(c.Words)
	if !r.running() {
		return
	}
	r.redirected(c.Redirs, func() { r.command(c.Assigns, fields, then) })
}

// command performs the assignments of a simple command and executes what its fields name.
func (r *run) command(assigns []api.Assign, fields []string, then func(child)) {
	switch {
	case len(fields) == 0:
		if r.assign(assigns, false) {
			r.Status = max(r.Sub, 0)
		}
	case Builtin(fields[0]) == special:
		if r.assign(assigns, false) {
			r.call(fields, then)
		}
	default:
		before := r.Vars
		if r.assign(assigns, true) {
			r.call(fields, then)
		}
		r.restore(assigns, before)
	}
}

// assign performs assignments one by one, and reports whether all succeeded.
func (r *run) assign(l []api.Assign, export bool) bool {
	for i := range l {
		value := r.text(l[i].Word)
		if !r.running() {
			return false
		}
		vars, e := param.Set(r.Vars, l[i].Name, value)
		if e == api.OK && export {
			vars, e = param.Export(vars, l[i].Name)
		}
		if e != api.OK {
			r.fail(l[i].Name, e, 1)
			return false
		}
		r.Vars = vars
	}
	return true
}

// restore makes the variables that were assigned what they were before.
func (r *run) restore(l []api.Assign, before []api.Var) {
	for _, a := range l {
		r.Vars = param.Unset(r.Vars, a.Name)
		i := slices.IndexFunc(before, func(v api.Var) bool { return v.Name == a.Name })
		if i < 0 {
			continue
		}
		r.Vars, _ = param.Set(r.Vars, a.Name, before[i].Value)
		if before[i].Export {
			r.Vars, _ = param.Export(r.Vars, a.Name)
		}
	}
}

// call executes a special builtin, a function, another builtin or a program.
func (r *run) call(fields []string, then func(child)) {
	name := fields[0]
	b := builtins()[name]
	if b.kind != special {
		if i, found := r.find(name); found {
			r.invoke(&r.Funcs[i].Body, fields[1:])
			return
		}
	}
	if b.kind == 0 {
		r.program(fields, then)
		return
	}
	b.do(r, fields)
}

// invoke executes the body of a function with arguments.
func (r *run) invoke(body *api.Cmd, args []string) {
	if r.Calls >= api.MaxCalls {
		r.stop(api.ErrDeep)
		return
	}
	before := r.Args
	r.Args = clone.List(args)
	r.Calls++
	r.exec(body)
	r.Calls--
	r.Args, r.Back = before, false
}
