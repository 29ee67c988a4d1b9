package prog

import (
	"bytes"
	"strings"

	"turnkey/api"
	"turnkey/clone"
	"turnkey/num"
)

// run is a child while it runs.
type run struct{ api.Proc }

// starts returns what starts each program.
func starts() map[string]func(*run) {
	return map[string]func(*run){
		"true":  (*run).startTrue,
		"false": (*run).startFalse,
		"echo":  (*run).startEcho,
		"cat":   (*run).startReading,
		"wc":    (*run).startReading,
		"head":  (*run).startHead,
		"tr":    (*run).startTr,
		"env":   (*run).startEnv,
		"fail":  (*run).startFail,
		"yes":   (*run).startYes,
	}
}

// start starts a child.
func (r *run) start() {
	begin, known := starts()[r.Prog]
	if !known {
		r.end(statusNone)
		return
	}
	begin(r)
}

func (r *run) startTrue() { r.end(0) }

func (r *run) startFalse() { r.end(statusBad) }

func (r *run) startEcho() {
	r.Buf = []byte(strings.Join(r.words(), " ") + "\n")
	r.Phase = phaseLast
}

func (r *run) startReading() { r.Phase = phaseRead }

func (r *run) startHead() {
	r.Count = defaultCount
	if n, ok := r.number(); ok && n >= 0 {
		r.Count = n
	}
	r.Phase = phaseRead
	if r.Count == 0 {
		r.end(0)
	}
}

func (r *run) startTr() {
	if _, _, ok := r.bytes(); !ok {
		r.end(statusBad)
		return
	}
	r.Phase = phaseRead
}

func (r *run) startEnv() {
	if len(r.Env) == 0 {
		r.end(0)
		return
	}
	r.Buf = []byte(strings.Join(r.Env, "\n") + "\n")
	r.Phase = phaseLast
}

func (r *run) startFail() {
	status := statusBad
	if n, ok := r.number(); ok && n >= 0 && n <= maxStatus {
		status = n
	}
	r.end(status)
}

func (r *run) startYes() {
	r.Buf = []byte("y\n")
	r.Phase = phaseWrite
}

// wrote takes the result of a write in.
func (r *run) wrote(e api.Errno, n int) {
	switch e {
	case api.OK:
	case api.ErrPipe:
		r.end(statusPipe)
		return
	default:
		r.end(statusBad)
		return
	}
	r.Buf = clone.List(r.Buf[min(max(n, 0), len(r.Buf)):])
	switch {
	case len(r.Buf) > 0:
	case r.Phase == phaseLast:
		r.Phase = phaseEnd
	case r.Prog == "yes":
		r.startYes()
	default:
		r.Phase = phaseRead
	}
}

// read takes the result of a read in.
func (r *run) read(e api.Errno, data []byte) {
	switch {
	case e != api.OK:
		r.end(statusBad)
	case len(data) == 0 && r.Prog == "wc":
		r.Buf = []byte(num.Dec(r.Count) + "\n")
		r.Phase = phaseLast
	case len(data) == 0:
		r.Phase = phaseEnd
	case r.Prog == "wc":
		r.count(data)
	case r.Prog == "head":
		r.head(data)
	case r.Prog == "tr":
		if from, to, ok := r.bytes(); ok {
			data = bytes.ReplaceAll(data, []byte{from}, []byte{to})
		}
		r.pass(data)
	default:
		r.pass(data)
	}
}

// count counts bytes or line feeds.
func (r *run) count(data []byte) {
	n := len(data)
	if words := r.words(); len(words) > 0 && words[0] == "-l" {
		n = bytes.Count(data, []byte{'\n'})
	}
	r.Count = min(max(r.Count, 0), maxCount) + n
}

// head passes on as much as is still to be passed on.
func (r *run) head(data []byte) {
	n := min(max(r.Count, 0), len(data))
	r.Count = max(r.Count, 0) - n
	r.pass(clone.List(data[:n]))
	if r.Count == 0 {
		r.Phase = phaseLast
	}
}

// pass writes data.
func (r *run) pass(data []byte) {
	r.Buf = data
	r.Phase = phaseWrite
}

// end enters the phase of ending with a status.
func (r *run) end(status int) {
	r.Phase = phaseEnd
	r.Status = status
}

// words returns the arguments behind the name.
func (r *run) words() []string {
	if len(r.Args) == 0 {
		return nil
	}
	return r.Args[1:]
}

// number returns the first word as an integer.
func (r *run) number() (int, bool) {
	words := r.words()
	if len(words) == 0 {
		return 0, false
	}
	return num.Parse(words[0])
}

// bytes returns the byte that tr replaces and the one that it puts there.
func (r *run) bytes() (byte, byte, bool) {
	words := r.words()
	if len(words) != 2 || len(words[0]) != 1 || len(words[1]) != 1 {
		return 0, 0, false
	}
	return words[0][0], words[1][0], true
}
