package interp

import (
	"turnkey/api"
	"turnkey/clone"
	"turnkey/num"
	"turnkey/session"
)

// maxWrite is the number of bytes that are written at a time.
const maxWrite = 2048

// run is a shell while it runs, and what sends its requests.
type run struct {
	api.Inter
	send func(api.Req) api.Rep
}

func newRun(x api.Inter) *run {
	r := &run{Inter: clone.Inter(x)}
	r.send = r.request
	return r
}

// running reports whether the shell goes on.
func (r *run) running() bool { return r.Stop == api.OK && !r.Exit && r.Leave == 0 && !r.Back }

// stop stops the shell. The first reason counts.
func (r *run) stop(e api.Errno) {
	if r.Stop == api.OK {
		r.Stop = e
	}
}

// spend consumes fuel, if there is any.
func (r *run) spend() bool {
	if r.Fuel <= 0 {
		r.stop(api.ErrFuel)
		return false
	}
	r.Fuel--
	return true
}

// request sends a request to the session.
func (r *run) request(q api.Req) api.Rep {
	if !r.spend() {
		return api.Rep{Err: api.ErrFuel}
	}
	s, rep := session.Ask(r.S, q)
	r.S = s
	return rep
}

// release closes handles.
func (r *run) release(handles ...int) {
	for _, h := range handles {
		r.send(api.Req{Op: api.OpClose, H: h})
	}
}

// pump lets the children go on. If none can, there is nothing to wait for.
func (r *run) pump() {
	rep := r.send(api.Req{Op: api.OpPump, N: api.PumpSteps})
	if rep.Err != api.OK || rep.N == 0 {
		r.stop(api.ErrAgain)
	}
}

// path returns the path of a string.
func (r *run) path(p string) string {
	switch {
	case p != "" && p[0] == '/':
		return p
	case r.Cwd == "/":
		return r.Cwd + p
	}
	return r.Cwd + "/" + p
}

// message writes a message.
func (r *run) message(name string, text string) {
	r.write(2, []byte("sh: "+name+": "+text+"\n"))
}

// fail writes the message for an error and sets the Status.
func (r *run) fail(name string, e api.Errno, status int) {
	r.message(name, "error "+num.Dec(int(e)))
	r.Status = status
}

// fatal does what fail does, and ends the shell.
func (r *run) fatal(name string, e api.Errno) {
	r.fail(name, e, 1)
	r.Exit = true
}

// write writes bytes to a descriptor.
func (r *run) write(fd int, b []byte) api.Errno {
	switch r.Fds[fd] {
	case none:
		return api.ErrBadf
	case api.Captured:
		if !r.capture(b) {
			return api.ErrFull
		}
		return api.OK
	}
	for len(b) > 0 {
		rep := r.send(api.Req{Op: api.OpWrite, H: r.Fds[fd], Data: b[:min(len(b), maxWrite)]})
		switch rep.Err {
		case api.OK:
			b = b[rep.N:]
		case api.ErrAgain:
			r.pump()
			if r.Stop != api.OK {
				return api.ErrAgain
			}
		default:
			return rep.Err
		}
	}
	return api.OK
}

// capture appends bytes to what is captured, if they fit.
func (r *run) capture(b []byte) bool {
	if len(r.Out)+len(b) > api.MaxOut {
		return false
	}
	r.Out = append(r.Out, b...)
	return true
}
