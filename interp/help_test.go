package interp

import (
	"strings"
	"testing"

	"turnkey/api"
	"turnkey/audit"
	"turnkey/disk"
	"turnkey/names"
	"turnkey/node"
	"turnkey/record"
	"turnkey/session"
	"turnkey/tree"
)

// world returns a file system with the programs in /bin, the files a.c, b.c, .h and note (with two lines) and the empty directory d in the root.
func world(t testing.TB) api.Fs {
	t.Helper()
	f := node.New()
	add := func(dir int, name string, n api.Node) int {
		var at int
		var e api.Errno
		if f, at, e = names.Create(f, dir, name, n); e != api.OK {
			t.Fatal(name, e)
		}
		return at
	}
	bin := add(0, "bin", api.Node{Kind: api.NodeDir, Mode: 7})
	for _, prog := range strings.Fields("cat echo env fail false head tr true wc yes") {
		add(bin, prog, api.Node{Kind: api.NodeFile, Mode: 5, Data: []byte("#!" + prog + "\n")})
	}
	add(bin, "text", api.Node{Kind: api.NodeFile, Mode: 7, Data: []byte("no program")})
	add(bin, "locked", api.Node{Kind: api.NodeFile, Mode: 6, Data: []byte("#!echo\n")})
	for _, name := range []string{"a.c", "b.c", ".h"} {
		add(0, name, api.Node{Kind: api.NodeFile, Mode: 6})
	}
	add(0, "note", api.Node{Kind: api.NodeFile, Mode: 6, Data: []byte("one two\nthree\n")})
	add(0, "d", api.Node{Kind: api.NodeDir, Mode: 7})
	add(0, "l", api.Node{Kind: api.NodeLink, To: "d"})
	return f
}

const all = "allow * /**\nenv keep *"

// shell returns a shell under a policy.
func shell(t testing.TB, policy string, in string, fuel int, args ...string) api.Inter {
	t.Helper()
	d, _ := disk.New(1 << 16)
	s, e := session.New(policy, world(t), []byte(in), d, nil)
	if e != api.OK {
		t.Fatal(e)
	}
	return New(s, args, []string{"HOME=/d", "PATH=/bin"}, fuel)
}

func parse(t testing.TB, script string) []api.Cmd {
	t.Helper()
	l, f := tree.Parse(script)
	if f.Code != api.OK {
		t.Fatalf("%q: %v", script, f)
	}
	return l
}

// do runs a script in a shell, which must remain valid.
func do(t testing.TB, x api.Inter, script string) api.Inter {
	t.Helper()
	x = Run(x, parse(t, script))
	if !Check(x) {
		t.Fatalf("%q leaves an invalid shell: %+v", script, x)
	}
	return x
}

// out returns what a script writes, to the output and, behind a bar, to the error output.
func out(x api.Inter) string {
	s := string(x.S.Broker.Kern.Out)
	if e := string(x.S.Broker.Kern.Err); e != "" {
		s += "|" + e
	}
	return s
}

// try runs a script with the arguments A and B C in a new shell that may do everything.
func try(t testing.TB, script string) api.Inter {
	t.Helper()
	return do(t, shell(t, all, "line one\nline two\nend", api.MaxFuel, "A", "B C"), script)
}

// lines returns the log as text.
func lines(x api.Inter) []string {
	var l []string
	for _, r := range audit.Records(x.S.Broker.Log) {
		l = append(l, record.Line(r))
	}
	return l
}

// expect runs scripts and compares what they write and their Status.
func expect(t *testing.T, cases []result) {
	t.Helper()
	for _, c := range cases {
		x := try(t, c.script)
		if out(x) != c.out || x.Status != c.status || x.Stop != api.OK {
			t.Errorf("%q: %q, %d, stop %d; want %q, %d", c.script, out(x), x.Status, x.Stop, c.out, c.status)
		}
		if h, c2, b := session.Held(x.S); h != 3 || c2 != 0 || b != 0 {
			t.Errorf("%q leaves %d handles and %d children", c.script, h, c2)
		}
	}
}

// result is a script, what it writes, and its Status.
type result struct {
	script string
	out    string
	status int
}
