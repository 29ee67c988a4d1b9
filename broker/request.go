package broker

import (
	"strconv"

	"turnkey/api"
	"turnkey/audit"
	"turnkey/clone"
	"turnkey/desc"
	"turnkey/env"
	"turnkey/node"
	"turnkey/policy"
	"turnkey/proto"
	"turnkey/resolve"
)

// none is the number of a node or Desc that there is not.
const none = -1

// refusal is the reason why a request fails.
type refusal struct{ code api.Errno }

// Error tells the number of the error.
func (r refusal) Error() string { return "the request fails with error " + strconv.Itoa(int(r.code)) }

// refuse returns an error as a refusal, or nil.
func refuse(e api.Errno) error {
	if e == api.OK {
		return nil
	}
	return refusal{e}
}

// request is a request in progress: the broker as it is so far, what its paths lead to, its arguments and settings, and the reply.
type request struct {
	api.Broker
	req    api.Req
	choice []int
	first  api.Found
	second api.Found
	args   []string
	env    []string
	rep    api.Rep
}

// handlers returns what handles the requests that are not governed.
func handlers() map[int]func(*request) api.Errno {
	return map[int]func(*request) api.Errno{
		api.OpClose: (*request).close,
		api.OpDup:   (*request).dup,
		api.OpPipe:  (*request).pipe,
		api.OpRead:  (*request).read,
		api.OpWait:  (*request).wait,
		api.OpKill:  (*request).kill,
		api.OpPump:  (*request).pump,
	}
}

// performers returns what performs the requests that are governed.
func performers() map[int]func(*request) api.Errno {
	return map[int]func(*request) api.Errno{
		api.OpOpen:    (*request).open,
		api.OpWrite:   (*request).write,
		api.OpSpawn:   (*request).spawn,
		api.OpChdir:   (*request).chdir,
		api.OpStat:    (*request).stat,
		api.OpReaddir: (*request).readdir,
		api.OpUnlink:  (*request).unlink,
		api.OpMkdir:   (*request).mkdir,
		api.OpRename:  (*request).rename,
	}
}

// handle handles a request; without an error, rep is its reply.
func (q *request) handle() error {
	if !proto.Governed(q.req.Op) {
		return refuse(handlers()[q.req.Op](q))
	}
	if q.req.Op == api.OpWrite && q.toStream() {
		return refuse(q.write())
	}
	return q.govern()
}

// toStream reports whether the handle of a write exists and is not that of a file; such writes are not governed.
func (q *request) toStream() bool {
	d, e := desc.Get(q.Kern, q.req.H)
	return e == api.OK && q.Kern.Descs[d].Kind != api.DescFile
}

// govern takes the steps of a governed request.
func (q *request) govern() error {
	if err := q.locate(); err != nil {
		return err
	}
	if q.req.Op == api.OpSpawn {
		q.args = clone.List(q.req.Args)
		q.env = policy.Settings(q.Policy, env.Of(q.req.Env))
	}
	allow := policy.Permit(q.Policy, q.req.Op, q.first.Path, q.second.Path, q.args)
	if err := q.record(allow); err != nil {
		return err
	}
	if !allow {
		return refuse(api.ErrAccess)
	}
	q.Calls++
	q.Trace = append(q.Trace, api.Issued{
		Op: q.req.Op, Path: q.first.Path, Path2: q.second.Path,
		Args: clone.List(q.args), Env: clone.List(q.env), Node: q.first.Node,
	})
	return refuse(performers()[q.req.Op](q))
}

// locate finds out what the paths of a request lead to.
func (q *request) locate() error {
	if q.req.Op == api.OpWrite {
		return q.locateFile()
	}
	var err error
	if q.first, err = q.resolve(q.req.Path); err != nil {
		return err
	}
	if q.req.Op == api.OpRename {
		q.second, err = q.resolve(q.req.Path2)
	}
	return err
}

func (q *request) resolve(p string) (api.Found, error) {
	found, e := resolve.Resolve(q.Kern.Fs, q.Cwd, p, follows(q.req))
	q.Calls += found.Calls
	return found, refuse(e)
}

// locateFile finds the path of the file that is written.
func (q *request) locateFile() error {
	d, e := desc.Get(q.Kern, q.req.H)
	if e != api.OK {
		return refuse(e)
	}
	number := q.Kern.Descs[d].Node
	where, ok := node.Where(q.Kern.Fs, number)
	if !ok {
		return refuse(api.ErrAccess)
	}
	if len(where) > api.MaxPath {
		return refuse(api.ErrNameLong)
	}
	q.first = api.Found{Node: number, Path: where}
	return nil
}

// record writes the decision down. Whatever keeps it from being synced keeps the request from being performed.
func (q *request) record(allow bool) error {
	if q.Log.Stop {
		return refuse(api.ErrAudit)
	}
	r := api.Record{Op: q.req.Op, Path: q.first.Path, Path2: q.second.Path, Allow: allow}
	if q.req.Op == api.OpSpawn {
		r.Digest = policy.Digest(q.args, q.env)
	}
	l, e := audit.Write(q.Log, r)
	q.Log = l
	if e != api.OK {
		return refuse(api.ErrAudit)
	}
	return nil
}

// follows reports whether the last part of a request's path is followed if it is a symbolic link.
func follows(r api.Req) bool {
	const exclusive = api.FlagCreate | api.FlagExcl
	switch r.Op {
	case api.OpOpen:
		return r.Flags < 0 || r.Flags&exclusive != exclusive
	case api.OpStat:
		return r.Flags != 1
	case api.OpChdir, api.OpReaddir, api.OpSpawn:
		return true
	}
	return false
}
