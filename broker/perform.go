package broker

import (
	"turnkey/api"
	"turnkey/desc"
	"turnkey/kern"
	"turnkey/node"
	"turnkey/proc"
)

const (
	maxRead  = 2048
	maxPump  = 1000
	maxNames = 120
	mayWalk  = 1
)

func (q *request) close() (e api.Errno) {
	q.Kern, e = desc.Close(q.Kern, q.req.H)
	return e
}

func (q *request) dup() (e api.Errno) {
	q.Kern, q.rep.H, e = desc.Dup(q.Kern, q.req.H)
	return e
}

func (q *request) pipe() (e api.Errno) {
	q.Kern, q.rep.H, q.rep.H2, e = desc.Pipe(q.Kern)
	return e
}

func (q *request) read() api.Errno {
	d, e := desc.Get(q.Kern, q.req.H)
	if e != api.OK {
		return e
	}
	q.Kern, q.rep.Data, e = desc.Read(q.Kern, d, min(q.req.N, maxRead))
	q.rep.N = len(q.rep.Data)
	return e
}

func (q *request) wait() (e api.Errno) {
	q.Kern, q.rep.N, e = proc.Wait(q.Kern, q.req.N)
	return e
}

func (q *request) kill() (e api.Errno) {
	q.Kern, e = proc.Kill(q.Kern, q.req.N)
	return e
}

func (q *request) pump() (e api.Errno) {
	if q.req.N < 0 || q.req.N > maxPump {
		return api.ErrArg
	}
	q.Kern, q.rep.N, e = proc.Pump(q.Kern, q.choice, q.req.N)
	return e
}

func (q *request) write() api.Errno {
	d, e := desc.Get(q.Kern, q.req.H)
	if e != api.OK {
		return e
	}
	q.Kern, q.rep.N, e = desc.Write(q.Kern, d, q.req.Data)
	return e
}

func (q *request) open() (e api.Errno) {
	if q.first.Dir == none {
		q.Kern, q.rep.H, e = kern.OpenNode(q.Kern, q.first.Node, q.req.Flags)
		return e
	}
	q.Kern, q.rep.H, e = kern.Open(q.Kern, q.first.Dir, q.first.Name, q.req.Flags, q.req.N)
	return e
}

func (q *request) spawn() api.Errno {
	if q.first.Node == none {
		return api.ErrNoEnt
	}
	var fds []int
	for _, h := range q.req.Fds {
		d := none
		if h != none {
			var e api.Errno
			if d, e = desc.Get(q.Kern, h); e != api.OK {
				return e
			}
		}
		fds = append(fds, d)
	}
	var e api.Errno
	q.Kern, q.rep.N, e = proc.Spawn(q.Kern, q.first.Node, q.args, q.env, fds)
	return e
}

func (q *request) chdir() api.Errno {
	if q.first.Node == none {
		return api.ErrNoEnt
	}
	n := q.Kern.Fs.Nodes[q.first.Node]
	if n.Kind != api.NodeDir {
		return api.ErrNotDir
	}
	if n.Mode&mayWalk == 0 {
		return api.ErrAccess
	}
	q.Cwd = q.first.Node
	return api.OK
}

func (q *request) stat() (e api.Errno) {
	if q.first.Node == none {
		return api.ErrNoEnt
	}
	q.rep.N, q.rep.H, q.rep.H2, e = kern.Stat(q.Kern, q.first.Node)
	return e
}

func (q *request) readdir() (e api.Errno) {
	if q.first.Node == none {
		return api.ErrNoEnt
	}
	if q.rep.Names, e = node.List(q.Kern.Fs, q.first.Node); len(q.rep.Names) > maxNames {
		return api.ErrLimit
	}
	return e
}

func (q *request) unlink() (e api.Errno) {
	if q.first.Dir == none {
		return api.ErrInval
	}
	q.Kern, e = kern.Remove(q.Kern, q.first.Dir, q.first.Name)
	return e
}

func (q *request) mkdir() (e api.Errno) {
	if q.first.Dir == none {
		return api.ErrExist
	}
	q.Kern, e = kern.Make(q.Kern, q.first.Dir, q.first.Name, q.req.N)
	return e
}

func (q *request) rename() (e api.Errno) {
	if q.first.Dir == none || q.second.Dir == none {
		return api.ErrInval
	}
	q.Kern, e = kern.Move(q.Kern, q.first.Dir, q.first.Name, q.second.Dir, q.second.Name)
	return e
}
