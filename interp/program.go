package interp

import (
	"slices"
	"strings"

	"turnkey/api"
	"turnkey/param"
)

const (
	maxRead        = 2048
	statusNotRun   = 126
	statusNotFound = 127
)

// child is a child that was spawned, and the end of the pipe from which what it writes is captured.
type child struct {
	pid    int
	reader int
}

// program spawns a program. What is done with the child, then says.
func (r *run) program(fields []string, then func(child)) {
	name := fields[0]
	fds := slices.Clone(r.Fds[:standard])
	reader, writer := none, none
	if slices.Contains(fds, api.Captured) {
		rep := r.send(api.Req{Op: api.OpPipe})
		if rep.Err != api.OK {
			r.fail(name, rep.Err, statusNotRun)
			return
		}
		reader, writer = rep.H, rep.H2
		for i := range fds {
			if fds[i] == api.Captured {
				fds[i] = writer
			}
		}
	}
	pid, e := r.spawn(fields, fds)
	if writer != none {
		r.release(writer)
	}
	if e == api.OK {
		then(child{pid, reader})
		return
	}
	if reader != none {
		r.release(reader)
	}
	if e == api.ErrNoEnt {
		r.message(name, "not found")
		r.Status = statusNotFound
		return
	}
	r.fail(name, e, statusNotRun)
}

// spawn tries one path after the other. The error is ErrNoEnt if none is left.
func (r *run) spawn(fields []string, fds []int) (int, api.Errno) {
	for _, p := range r.candidates(fields[0]) {
		rep := r.send(api.Req{Op: api.OpSpawn, Path: p, Args: fields, Env: param.Env(r.Vars), Fds: fds})
		if rep.Err != api.ErrNoEnt && rep.Err != api.ErrNotDir {
			return rep.N, rep.Err
		}
	}
	return 0, api.ErrNoEnt
}

// candidates returns the paths at which a program may be.
func (r *run) candidates(name string) []string {
	if strings.Contains(name, "/") {
		return []string{r.path(name)}
	}
	var out []string
	dirs, _ := param.Get(r.Vars, "PATH")
	for dir := range strings.SplitSeq(dirs, ":") {
		if dir != "" {
			out = append(out, r.path(dir)+"/"+name)
		}
	}
	return out
}

// await waits for a child.
func (r *run) await(c child) {
	r.drain(c)
	r.reap(c)
}

// drain captures what a child writes, until it is done.
func (r *run) drain(c child) {
	if c.reader == none {
		return
	}
	for r.Stop == api.OK {
		rep := r.send(api.Req{Op: api.OpRead, H: c.reader, N: maxRead})
		if rep.Err == api.ErrAgain {
			r.pump()
			continue
		}
		if rep.Err != api.OK || len(rep.Data) == 0 {
			break
		}
		if !r.capture(rep.Data) {
			r.stop(api.ErrLimit)
		}
	}
	r.release(c.reader)
}

// reap waits for the end of a child, or kills it if the shell has stopped.
func (r *run) reap(c child) {
	for r.Stop == api.OK {
		rep := r.send(api.Req{Op: api.OpWait, N: c.pid})
		if rep.Err == api.ErrAgain {
			r.pump()
			continue
		}
		if rep.Err == api.OK {
			r.Status = rep.N
		}
		if r.Stop == api.OK {
			return
		}
	}
	r.send(api.Req{Op: api.OpKill, N: c.pid})
	r.send(api.Req{Op: api.OpWait, N: c.pid})
}
