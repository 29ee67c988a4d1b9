package proc

import (
	"turnkey/api"
	"turnkey/clone"
	"turnkey/desc"
	"turnkey/prog"
)

// step performs an action of a child and returns the kernel after it.
type step func() api.Kern

// ready returns the steps of all children that can make progress.
func ready(k api.Kern) []step {
	var out []step
	for i := range k.Procs {
		if s := next(k, i); s != nil {
			out = append(out, s)
		}
	}
	return out
}

// next returns the next step of a child, or nil if it would not make progress.
func next(k api.Kern, i int) step {
	p := k.Procs[i]
	if p.Done {
		return nil
	}
	act := prog.Next(p)
	if act.Kind == api.ActEnd {
		return func() api.Kern { return end(k, i, act.Status) }
	}
	d := p.Fds[act.Fd]
	if d == none {
		return func() api.Kern { return after(clone.Kern(k), i, api.ErrBadf, 0, nil) }
	}
	if !mayBlock(k.Descs[d].Kind) {
		return func() api.Kern {
			out, _ := perform(k, i, d, act)
			return out
		}
	}
	out, e := perform(k, i, d, act)
	if e == api.ErrAgain {
		return nil
	}
	return func() api.Kern { return out }
}

// mayBlock reports whether a call on a Desc of a kind can return ErrAgain.
func mayBlock(kind int) bool { return kind == api.DescRead || kind == api.DescWrite }

// perform reads from or writes to a Desc for a child.
func perform(k api.Kern, i int, d int, act api.Act) (api.Kern, api.Errno) {
	if act.Kind == api.ActRead {
		out, data, e := desc.Read(k, d, act.N)
		return after(out, i, e, 0, data), e
	}
	out, n, e := desc.Write(k, d, act.Data)
	return after(out, i, e, n, nil), e
}

// after lets a child take the result of its action in. The kernel is the callee's own.
func after(k api.Kern, i int, e api.Errno, n int, data []byte) api.Kern {
	k.Procs[i] = prog.After(k.Procs[i], e, n, data)
	return k
}

// end ends a child with a status and releases its references.
func end(k api.Kern, i int, status int) api.Kern {
	out := clone.Kern(k)
	for j, d := range k.Procs[i].Fds {
		if d != none {
			out, _ = desc.Refer(out, d, -1)
			out.Procs[i].Fds[j] = none
		}
	}
	out.Procs[i].Done, out.Procs[i].Status = true, status
	return out
}
