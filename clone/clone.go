// Package clone copies the values of package api, so that what a function returns shares nothing with what it was given.
package clone

import (
	"slices"

	"turnkey/api"
)

// Each returns a list of copies.
func Each[T any](l []T, one func(T) T) []T {
	if len(l) == 0 {
		return nil
	}
	out := make([]T, len(l))
	for i, x := range l {
		out[i] = one(x)
	}
	return out
}

// List copies a list of values that hold no lists themselves.
func List[T any](l []T) []T {
	if len(l) == 0 {
		return nil
	}
	return slices.Clone(l)
}

// Disk copies a disk.
func Disk(d api.Disk) api.Disk {
	d.Synced, d.Pending = List(d.Synced), List(d.Pending)
	return d
}

// Log copies an audit log.
func Log(l api.Log) api.Log {
	l.Disk, l.Hash = Disk(l.Disk), List(l.Hash)
	return l
}

// Policy copies a policy.
func Policy(p api.Policy) api.Policy {
	p.Rules = Each(p.Rules, func(r api.Rule) api.Rule {
		r.Ops, r.Args = List(r.Ops), List(r.Args)
		return r
	})
	p.Env = List(p.Env)
	return p
}

// Node copies a node.
func Node(n api.Node) api.Node {
	n.Data, n.Names = List(n.Data), List(n.Names)
	return n
}

// Fs copies a file system.
func Fs(f api.Fs) api.Fs {
	f.Nodes = Each(f.Nodes, Node)
	return f
}

// Pipe copies a pipe.
func Pipe(p api.Pipe) api.Pipe {
	p.Data = List(p.Data)
	return p
}

// Proc copies a child.
func Proc(p api.Proc) api.Proc {
	p.Args, p.Env, p.Fds, p.Buf = List(p.Args), List(p.Env), List(p.Fds), List(p.Buf)
	return p
}

// Kern copies a kernel.
func Kern(k api.Kern) api.Kern {
	k.Fs = Fs(k.Fs)
	k.Pipes = Each(k.Pipes, Pipe)
	k.Descs = List(k.Descs)
	k.Table = List(k.Table)
	k.Procs = Each(k.Procs, Proc)
	k.In, k.Out, k.Err = List(k.In), List(k.Out), List(k.Err)
	return k
}

// Broker copies a broker.
func Broker(b api.Broker) api.Broker {
	b.Policy, b.Kern, b.Log = Policy(b.Policy), Kern(b.Kern), Log(b.Log)
	b.Trace = List(b.Trace)
	for i := range b.Trace {
		b.Trace[i].Args, b.Trace[i].Env = List(b.Trace[i].Args), List(b.Trace[i].Env)
	}
	return b
}

// Session copies a session.
func Session(s api.Session) api.Session {
	s.Stream.Have = List(s.Stream.Have)
	s.Broker = Broker(s.Broker)
	s.Choice = List(s.Choice)
	return s
}

// Word copies a word.
func Word(w []api.Part) []api.Part {
	return Each(w, func(p api.Part) api.Part {
		p.Word, p.Cmd = Word(p.Word), Cmds(p.Cmd)
		return p
	})
}

// Cmds copies commands.
func Cmds(l []api.Cmd) []api.Cmd { return Each(l, Cmd) }

// Cmd copies a command.
func Cmd(c api.Cmd) api.Cmd {
	c.Assigns = Each(c.Assigns, func(a api.Assign) api.Assign {
		a.Word = Word(a.Word)
		return a
	})
	c.Words = Each(c.Words, Word)
	c.Redirs = Each(c.Redirs, func(r api.Redir) api.Redir {
		r.Word = Word(r.Word)
		return r
	})
	c.Items = Each(c.Items, func(i api.Item) api.Item {
		i.Patterns, i.Body = Each(i.Patterns, Word), Cmds(i.Body)
		return i
	})
	c.Kids = Cmds(c.Kids)
	return c
}

// Inter copies a shell.
func Inter(x api.Inter) api.Inter {
	x.S = Session(x.S)
	x.Vars, x.Args, x.Fds, x.Out = List(x.Vars), List(x.Args), List(x.Fds), List(x.Out)
	x.Funcs = Each(x.Funcs, func(f api.Func) api.Func {
		f.Body = Cmd(f.Body)
		return f
	})
	return x
}
