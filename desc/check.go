package desc

import (
	"turnkey/api"
	"turnkey/node"
	"turnkey/pipe"
)

// Check reports whether a kernel is valid.
func Check(k api.Kern) bool {
	if len(k.Pipes) > api.MaxPipes || len(k.Descs) > api.MaxDescs || len(k.Table) != api.MaxHandles || len(k.Procs) > api.MaxProcs {
		return false
	}
	if len(k.In) > api.MaxOut || len(k.Out) > api.MaxOut || len(k.Err) > api.MaxOut || k.Pids < 0 || k.Pids > maxPids {
		return false
	}
	return node.Check(k.Fs) && checkDescs(k) && checkProcs(k) && checkRefs(k) && checkPipes(k)
}

// checkDescs reports whether each Desc and each handle is valid by itself.
func checkDescs(k api.Kern) bool {
	for _, d := range k.Descs {
		if !checkDesc(k, d) {
			return false
		}
	}
	for _, d := range k.Table {
		if !refersTo(k, d) {
			return false
		}
	}
	return true
}

// checkDesc reports whether a Desc could occur in a kernel, as far as it does not depend on who refers to it.
func checkDesc(k api.Kern, d api.Desc) bool {
	if d.Kind < 0 || d.Kind >= len(kinds) || !kinds[d.Kind].known {
		return false
	}
	if d.Off < 0 || d.Off > api.MaxData || d.Flags < 0 || d.Flags > maxFlags || d.Refs < 0 {
		return false
	}
	f := kinds[d.Kind]
	if f.node == 0 && d.Node != 0 || !f.pipe && d.Pipe != 0 {
		return false
	}
	if f.node != 0 && (d.Node < 0 || d.Node >= len(k.Fs.Nodes) || k.Fs.Nodes[d.Node].Kind != f.node) {
		return false
	}
	return !f.pipe || d.Pipe >= 0 && d.Pipe < len(k.Pipes)
}

// refersTo reports whether d is the number of a Desc, or none.
func refersTo(k api.Kern, d int) bool { return d == free || d >= 0 && d < len(k.Descs) }

// checkProcs reports whether the children are valid.
func checkProcs(k api.Kern) bool {
	last := 0
	for _, p := range k.Procs {
		if p.Pid <= last || p.Pid > k.Pids || p.Status < 0 || p.Status > maxCode || len(p.Fds) != standard {
			return false
		}
		last = p.Pid
		for _, d := range p.Fds {
			if !refersTo(k, d) || p.Done && d != free {
				return false
			}
		}
	}
	return true
}

// checkRefs reports whether the Refs of each Desc are what refers to it.
func checkRefs(k api.Kern) bool {
	refs := make([]int, len(k.Descs))
	add := func(l []int) {
		for _, d := range l {
			if d != free {
				refs[d]++
			}
		}
	}
	add(k.Table)
	for _, p := range k.Procs {
		add(p.Fds)
	}
	for i, d := range k.Descs {
		if d.Refs != refs[i] {
			return false
		}
	}
	return true
}

// checkPipes reports whether the pipes are valid and have the open ends that they count.
func checkPipes(k api.Kern) bool {
	readers, writers := make([]int, len(k.Pipes)), make([]int, len(k.Pipes))
	for _, d := range k.Descs {
		switch {
		case d.Refs > 0 && d.Kind == api.DescRead:
			readers[d.Pipe]++
		case d.Refs > 0 && d.Kind == api.DescWrite:
			writers[d.Pipe]++
		}
	}
	for i, p := range k.Pipes {
		if !pipe.Check(p) || p.Readers != readers[i] || p.Writers != writers[i] {
			return false
		}
	}
	return true
}
