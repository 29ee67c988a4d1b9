package interp

import (
	"slices"

	"turnkey/api"
)

// fileMode is the mode of a file that a redirection creates.
const fileMode = 6

// here is the operator of a here-document.
const here = "<<"

// redirected executes something inside redirections, unless one of them fails.
func (r *run) redirected(l []api.Redir, do func()) {
	if len(l) == 0 {
		do()
		return
	}
	before := r.Fds
	r.Fds = slices.Clone(r.Fds)
	var opened []int
	ok := true
	for i := 0; i < len(l) && ok; i++ {
		ok = r.redirect(&l[i], &opened)
	}
	if ok {
		do()
	}
	r.Fds = before
	r.release(opened...)
}

// redirect performs a redirection, and adds a handle that it opens to those that are opened. It reports whether it succeeded.
func (r *run) redirect(l *api.Redir, opened *[]int) bool {
	target := r.text(l.Word)
	if !r.running() {
		return false
	}
	fd := l.Fd
	if fd == none {
		fd = usual(l.Op)
	}
	h, e := r.target(l.Op, target, opened)
	if e == api.OK && (fd < 0 || fd >= len(r.Fds)) {
		e = api.ErrBadf
	}
	if e != api.OK {
		if l.Op == here {
			target = here
		}
		r.fail(target, e, 1)
		return false
	}
	r.Fds[fd] = h
	return true
}

// usual returns the descriptor that a redirection without a number is of.
func usual(op string) int {
	if op == "<" || op == here || op == "<&" {
		return 0
	}
	return 1
}

// target returns what a descriptor is redirected to.
func (r *run) target(op string, target string, opened *[]int) (int, api.Errno) {
	switch op {
	case "<":
		return r.open(target, api.FlagRead, 0, opened)
	case ">":
		return r.open(target, api.FlagWrite|api.FlagCreate|api.FlagTrunc, fileMode, opened)
	case ">>":
		return r.open(target, api.FlagWrite|api.FlagCreate|api.FlagAppend, fileMode, opened)
	case here:
		return r.document(target, opened)
	}
	if target == "-" {
		return none, api.OK
	}
	if len(target) != 1 || target[0] < '0' || target[0] > '9' || r.Fds[target[0]-'0'] == none {
		return 0, api.ErrBadf
	}
	return r.Fds[target[0]-'0'], api.OK
}

// open opens a file.
func (r *run) open(target string, flags int, mode int, opened *[]int) (int, api.Errno) {
	rep := r.send(api.Req{Op: api.OpOpen, Path: r.path(target), Flags: flags, N: mode})
	if rep.Err != api.OK {
		return 0, rep.Err
	}
	*opened = append(*opened, rep.H)
	return rep.H, api.OK
}

// document returns the end of a pipe from which a here-document can be read.
func (r *run) document(text string, opened *[]int) (int, api.Errno) {
	if len(text) > api.PipeRoom {
		return 0, api.ErrFull
	}
	rep := r.send(api.Req{Op: api.OpPipe})
	if rep.Err != api.OK {
		return 0, rep.Err
	}
	*opened = append(*opened, rep.H)
	var e api.Errno
	if text != "" {
		e = r.send(api.Req{Op: api.OpWrite, H: rep.H2, Data: []byte(text)}).Err
	}
	r.release(rep.H2)
	return rep.H, e
}
