package interp

import "turnkey/api"

// pipe executes a pipeline.
func (r *run) pipe(c *api.Cmd) {
	if len(c.Kids) > 1 {
		r.pipeline(c.Kids)
	} else {
		r.all(c.Kids)
	}
	if !c.Not || !r.running() {
		return
	}
	if r.Status == 0 {
		r.Status = 1
	} else {
		r.Status = 0
	}
}

// pipeline executes several commands side by side: first those that are programs, which are not waited for, then the others.
func (r *run) pipeline(kids []api.Cmd) {
	ends, e := r.connect(len(kids))
	if e != api.OK {
		r.fail("|", e, 1)
		return
	}
	var children []child
	status, spawned := 0, false
	for _, first := range []bool{true, false} {
		for i := range kids {
			if r.spawns(&kids[i]) != first {
				continue
			}
			then := r.await
			if first {
				then = func(c child) { children = append(children, c) }
			}
			count := len(children)
			r.kid(&kids[i], ends[i], then)
			if i == len(kids)-1 {
				status, spawned = r.Status, len(children) > count
			}
		}
	}
	for _, c := range children {
		r.drain(c)
	}
	for _, c := range children {
		r.reap(c)
	}
	if !spawned {
		r.Status = status
	}
}

// connect creates the pipes between commands, and returns the ends that each command reads from and writes to.
func (r *run) connect(count int) ([][2]int, api.Errno) {
	ends := make([][2]int, count)
	ends[0][0], ends[count-1][1] = none, none
	for i := range count - 1 {
		rep := r.send(api.Req{Op: api.OpPipe})
		if rep.Err != api.OK {
			for j := range i {
				r.release(ends[j+1][0], ends[j][1])
			}
			return nil, rep.Err
		}
		ends[i+1][0], ends[i][1] = rep.H, rep.H2
	}
	return ends, api.OK
}

// spawns reports whether a command of a pipeline is a program, as far as its first word shows.
func (r *run) spawns(c *api.Cmd) bool {
	if c.Kind != api.CmdSimple || len(c.Words) == 0 || len(c.Words[0]) != 1 || c.Words[0][0].Kind != api.PartText {
		return false
	}
	name := c.Words[0][0].Text
	_, function := r.find(name)
	return !function && Builtin(name) == 0
}

// kid executes a command of a pipeline, whose ends are closed afterwards.
func (r *run) kid(c *api.Cmd, ends [2]int, then func(child)) {
	r.subshell(func() {
		for fd, h := range ends {
			if h != none {
				r.Fds[fd] = h
			}
		}
		if c.Kind != api.CmdSimple {
			r.exec(c)
		} else if r.running() && r.spend() {
			r.simple(c, then)
		}
	})
	for _, h := range ends {
		if h != none {
			r.release(h)
		}
	}
}
