package broker

import (
	"bytes"
	"fmt"
	"math"
	"reflect"
	"slices"
	"strings"
	"testing"

	"turnkey/api"
	"turnkey/audit"
	"turnkey/chain"
	"turnkey/clone"
	"turnkey/desc"
	"turnkey/disk"
	"turnkey/node"
	"turnkey/policy"
	"turnkey/record"
	"turnkey/resolve"
	"turnkey/rules"
)

// The nodes of sampleFs.
const (
	a = 1 + iota
	bin
	echo
	d
	x
	l
	shut
	loop
)

// sampleFs has /a, /bin/echo, /d with x, /l to d, /shut (Mode 0), /loop to itself.
func sampleFs() api.Fs {
	return api.Fs{Nodes: []api.Node{
		{Kind: 2, Mode: 7, Links: 1, Names: []api.Name{{Name: "a", Node: a}, {Name: "bin", Node: bin}, {Name: "d", Node: d}, {Name: "l", Node: l}, {Name: "loop", Node: loop}, {Name: "shut", Node: shut}}},
		{Kind: 1, Mode: 6, Links: 1, Data: []byte("hello")}, {Kind: 2, Mode: 7, Links: 1, Names: []api.Name{{Name: "echo", Node: echo}}}, {Kind: 1, Mode: 5, Links: 1, Data: []byte("#!echo\n")},
		{Kind: 2, Mode: 7, Links: 1, Names: []api.Name{{Name: "x", Node: x}}}, {Kind: 1, Mode: 6, Links: 1, Data: []byte("in d")}, {Kind: 3, Links: 1, To: "d"}, {Kind: 2, Links: 1}, {Kind: 3, Links: 1, To: "loop"},
	}}
}

func boot(t *testing.T, text string) api.Broker {
	t.Helper()
	room, _ := disk.New(1 << 16)
	b, e := New(text, sampleFs(), []byte("input"), room)
	if e != api.OK || !Check(b) {
		t.Fatal(e)
	}
	return b
}

// lines returns the log of a broker as text.
func lines(b api.Broker) []string {
	var out []string
	for _, r := range audit.Records(b.Log) {
		out = append(out, record.Line(r))
	}
	return out
}

// do performs a request that must have an error, or none.
func do(t *testing.T, b api.Broker, r api.Req, want api.Errno) (api.Broker, api.Rep) {
	t.Helper()
	got, rep := Handle(b, r, nil)
	if rep.Err != want || !Check(got) {
		t.Fatalf("%+v: %+v; want %d", r, rep, want)
	}
	if want != api.OK && !reflect.DeepEqual(rep, api.Rep{Err: want}) {
		t.Fatalf("%+v: %+v", r, rep)
	}
	return got, rep
}

const all = "allow * /**"

// P22.1
func TestNew(t *testing.T) {
	b := boot(t, "deny write /a\n"+all)
	if len(b.Policy.Rules) != 2 || b.Cwd != 0 || b.Calls != 0 || len(b.Trace) != 0 || b.Log.Stop || string(b.Kern.In) != "input" {
		t.Errorf("%+v", b)
	}
	if b := boot(t, "allow * /**\nbad"); !reflect.DeepEqual(b.Policy, policy.Deny()) {
		t.Error(b.Policy)
	}
	for _, bad := range []api.Disk{{Room: -1}, {Room: 9, Dead: true}, {Room: 9, Pending: []byte{1}}} {
		b, e := New(all, sampleFs(), nil, bad)
		if e != api.OK || !Check(b) || !reflect.DeepEqual(b.Log, api.Log{Stop: true, Hash: chain.Root(), Disk: api.Disk{Arm: -1}}) {
			t.Errorf("%+v, %d", b.Log, e)
		}
	}
	broken := sampleFs()
	broken.Nodes[a].Links = 2
	for _, f := range []api.Fs{broken, {}} {
		if b, e := New(all, f, nil, api.Disk{}); e != api.ErrArg || !reflect.DeepEqual(b, api.Broker{}) {
			t.Error(e)
		}
	}
	if b, e := New(all, sampleFs(), make([]byte, 16385), api.Disk{}); e != api.ErrArg || !reflect.DeepEqual(b, api.Broker{}) {
		t.Error(e)
	}
}

// P22.1, P22.2
func TestInvalid(t *testing.T) {
	for name, spoil := range map[string]func(*api.Broker){
		"zero": func(b *api.Broker) { *b = api.Broker{} }, "policy": func(b *api.Broker) { b.Policy.Root = "" }, "kernel": func(b *api.Broker) { b.Kern.Pids = -1 }, "log": func(b *api.Broker) { b.Log.Seq = 1 },
		"cwd": func(b *api.Broker) { b.Cwd = a }, "cwd -1": func(b *api.Broker) { b.Cwd = -1 }, "cwd above": func(b *api.Broker) { b.Cwd = 99 }, "cwd of a link": func(b *api.Broker) { b.Cwd = l },
	} {
		b := boot(t, all)
		spoil(&b)
		got, rep := Handle(b, api.Req{Op: api.OpPipe}, nil)
		if Check(b) || !reflect.DeepEqual(rep, api.Rep{Err: api.ErrArg}) || !reflect.DeepEqual(got, clone.Broker(b)) {
			t.Error(name, rep)
		}
	}
	b := boot(t, all)
	for _, r := range []api.Req{{}, {Op: 17}, {Op: api.OpPipe, N: 1}, {Op: api.OpSpawn}, {Op: api.OpOpen, Path: strings.Repeat("p", 257)}} {
		if got, rep := Handle(b, r, nil); !reflect.DeepEqual(rep, api.Rep{Err: api.ErrArg}) || !reflect.DeepEqual(got, b) {
			t.Errorf("%+v: %+v", r, rep)
		}
	}
}

// P22.3: no policy is asked, and nothing is recorded.
func TestUngoverned(t *testing.T) {
	b := boot(t, "")
	b, rep := do(t, b, api.Req{Op: api.OpPipe}, api.OK)
	if rep.H != 3 || rep.H2 != 4 {
		t.Error(rep)
	}
	b, rep = do(t, b, api.Req{Op: api.OpDup, H: 4}, api.OK)
	if rep.H != 5 {
		t.Error(rep)
	}
	b, rep = do(t, b, api.Req{Op: api.OpWrite, H: 5, Data: []byte("abc")}, api.OK)
	if rep.N != 3 {
		t.Error(rep)
	}
	b, rep = do(t, b, api.Req{Op: api.OpRead, H: 3, N: 2}, api.OK)
	if rep.N != 2 || string(rep.Data) != "ab" {
		t.Error(rep)
	}
	b, _ = do(t, b, api.Req{Op: api.OpClose, H: 5}, api.OK)
	b, rep = do(t, b, api.Req{Op: api.OpRead, H: 0, N: 99}, api.OK)
	if rep.N != 5 || string(rep.Data) != "input" {
		t.Error(rep)
	}
	b, rep = do(t, b, api.Req{Op: api.OpWrite, H: 1, Data: []byte("out")}, api.OK)
	if rep.N != 3 || string(b.Kern.Out) != "out" {
		t.Error(rep)
	}
	b, rep = do(t, b, api.Req{Op: api.OpPump, N: 1000}, api.OK)
	if rep.N != 0 || len(lines(b)) != 0 || len(b.Trace) != 0 || b.Calls != 8 {
		t.Error(rep, lines(b), b.Calls)
	}
	for _, c := range []struct {
		r    api.Req
		want api.Errno
	}{
		{api.Req{Op: api.OpClose, H: 9}, api.ErrBadf}, {api.Req{Op: api.OpDup, H: -1}, api.ErrBadf}, {api.Req{Op: api.OpRead, H: 9, N: -1}, api.ErrBadf}, {api.Req{Op: api.OpRead, H: 0, N: -1}, api.ErrArg}, {api.Req{Op: api.OpRead, H: 1, N: 1}, api.ErrBadf}, {api.Req{Op: api.OpWrite, H: 0}, api.ErrBadf}, {api.Req{Op: api.OpWrite, H: 9}, api.ErrBadf},
		{api.Req{Op: api.OpWait, N: 1}, api.ErrChild}, {api.Req{Op: api.OpKill, N: 1}, api.ErrChild}, {api.Req{Op: api.OpPump, N: 1001}, api.ErrArg}, {api.Req{Op: api.OpPump, N: -1}, api.ErrArg},
	} {
		got, _ := do(t, b, c.r, c.want)
		if got.Calls != b.Calls+1 || !reflect.DeepEqual(got.Kern, b.Kern) || len(lines(got)) != 0 {
			t.Errorf("%+v", c.r)
		}
	}
}

// P22.3
func TestReadAtMost2048(t *testing.T) {
	room, _ := disk.New(0)
	b, _ := New("", sampleFs(), make([]byte, 5000), room)
	if got, rep := do(t, b, api.Req{Op: api.OpRead, N: 4000}, api.OK); rep.N != 2048 || len(rep.Data) != 2048 || len(got.Kern.In) != 2952 {
		t.Error(rep.N)
	}
}

// P22.4: what the paths lead to is recorded, permitted or not, and the decision follows the record.
func TestPaths(t *testing.T) {
	open := func(p string, flags int) api.Req { return api.Req{Op: api.OpOpen, Path: p, Flags: flags, N: 6} }
	const exclusive = api.FlagWrite | api.FlagCreate | api.FlagExcl
	for _, c := range []struct {
		r    api.Req
		want string
		err  api.Errno
	}{
		{open("l/x", 1), "open /d/x", api.OK}, {open("l", 1), "open /d", api.OK}, {open("l", exclusive), "open /l", api.ErrExist}, {open("l", -1), "open /d", api.ErrInval}, {open("none", 1), "open /none", api.ErrNoEnt}, {open("..", 1), "open /", api.OK}, {open("..", 2), "open /", api.ErrIsDir}, {open("new", exclusive), "open /new", api.OK},
		{api.Req{Op: api.OpStat, Path: "/l"}, "stat /d", api.OK}, {api.Req{Op: api.OpStat, Path: "/l", Flags: 1}, "stat /l", api.OK}, {api.Req{Op: api.OpStat, Path: "/l", Flags: 2}, "stat /d", api.OK}, {api.Req{Op: api.OpStat, Path: "q"}, "stat /q", api.ErrNoEnt},
		{api.Req{Op: api.OpChdir, Path: "l"}, "chdir /d", api.OK}, {api.Req{Op: api.OpChdir, Path: "a"}, "chdir /a", api.ErrNotDir}, {api.Req{Op: api.OpChdir, Path: "q"}, "chdir /q", api.ErrNoEnt}, {api.Req{Op: api.OpChdir, Path: "shut"}, "chdir /shut", api.ErrAccess},
		{api.Req{Op: api.OpReaddir, Path: "l"}, "readdir /d", api.OK}, {api.Req{Op: api.OpReaddir, Path: "a"}, "readdir /a", api.ErrNotDir}, {api.Req{Op: api.OpReaddir, Path: "q"}, "readdir /q", api.ErrNoEnt}, {api.Req{Op: api.OpReaddir, Path: "shut"}, "readdir /shut", api.ErrAccess},
		{api.Req{Op: api.OpUnlink, Path: "l"}, "unlink /l", api.OK}, {api.Req{Op: api.OpUnlink, Path: "q"}, "unlink /q", api.ErrNoEnt}, {api.Req{Op: api.OpUnlink, Path: "d/."}, "unlink /d", api.ErrInval}, {api.Req{Op: api.OpUnlink, Path: "/"}, "unlink /", api.ErrInval}, {api.Req{Op: api.OpUnlink, Path: "d"}, "unlink /d", api.ErrNotEmpty},
		{api.Req{Op: api.OpMkdir, Path: "l/n", N: 7}, "mkdir /d/n", api.OK}, {api.Req{Op: api.OpMkdir, Path: "l", N: 7}, "mkdir /l", api.ErrExist}, {api.Req{Op: api.OpMkdir, Path: "/", N: 8}, "mkdir /", api.ErrExist}, {api.Req{Op: api.OpMkdir, Path: "n", N: 8}, "mkdir /n", api.ErrInval},
		{api.Req{Op: api.OpRename, Path: "l/x", Path2: "l"}, "rename /d/x /l", api.OK}, {api.Req{Op: api.OpRename, Path: "d", Path2: "d/q"}, "rename /d /d/q", api.ErrInval}, {api.Req{Op: api.OpRename, Path: "/", Path2: "q"}, "rename / /q", api.ErrInval}, {api.Req{Op: api.OpRename, Path: "q", Path2: "."}, "rename /q /", api.ErrInval}, {api.Req{Op: api.OpRename, Path: "q", Path2: "r"}, "rename /q /r", api.ErrNoEnt},
	} {
		b := boot(t, all)
		got, _ := do(t, b, c.r, c.err)
		if !slices.Equal(lines(got), []string{"0 allow " + c.want}) || len(got.Trace) != 1 {
			t.Errorf("%+v: %q", c.r, lines(got))
		}
		b = boot(t, "deny * /**")
		got, _ = do(t, b, c.r, api.ErrAccess)
		if !slices.Equal(lines(got), []string{"0 deny " + c.want}) || len(got.Trace) != 0 || !reflect.DeepEqual(got.Kern, b.Kern) || got.Cwd != 0 {
			t.Errorf("%+v: %q", c.r, lines(got))
		}
	}
}

// P22.4: without a path there is nothing to decide.
func TestUnresolved(t *testing.T) {
	for _, c := range []struct {
		r    api.Req
		want api.Errno
	}{
		{api.Req{Op: api.OpOpen, Flags: 1}, api.ErrNoEnt}, {api.Req{Op: api.OpStat, Path: "/a/x"}, api.ErrNotDir}, {api.Req{Op: api.OpStat, Path: "/shut/x"}, api.ErrAccess}, {api.Req{Op: api.OpStat, Path: "/loop"}, api.ErrLoop}, {api.Req{Op: api.OpRename, Path: "/a", Path2: "/q/q"}, api.ErrNoEnt}, {api.Req{Op: api.OpRename, Path: "/a/q", Path2: "/q/q"}, api.ErrNotDir}, {api.Req{Op: api.OpChdir, Path: "\x00"}, api.ErrInval},
	} {
		b := boot(t, all)
		got, _ := do(t, b, c.r, c.want)
		if len(lines(got)) != 0 || len(got.Trace) != 0 || !reflect.DeepEqual(got.Kern, b.Kern) {
			t.Errorf("%+v", c.r)
		}
	}
}

// P22.4
func TestWriteToAFile(t *testing.T) {
	b := boot(t, "deny write /a\n"+all)
	b, rep := do(t, b, api.Req{Op: api.OpOpen, Path: "l/../a", Flags: 3}, api.OK)
	if rep.H != 3 {
		t.Error(rep)
	}
	b, _ = do(t, b, api.Req{Op: api.OpWrite, H: 3, Data: []byte("x")}, api.ErrAccess)
	if !slices.Equal(lines(b), []string{"0 allow open /a", "1 deny write /a"}) || string(b.Kern.Fs.Nodes[a].Data) != "hello" {
		t.Error(lines(b))
	}
	b, _ = do(t, b, api.Req{Op: api.OpRename, Path: "a", Path2: "b"}, api.OK)
	b, rep = do(t, b, api.Req{Op: api.OpWrite, H: 3, Data: []byte("J")}, api.OK)
	if rep.N != 1 || lines(b)[3] != "3 allow write /b" || string(b.Kern.Fs.Nodes[a].Data) != "Jello" || b.Trace[2].Node != a {
		t.Error(lines(b))
	}
	b, _ = do(t, b, api.Req{Op: api.OpUnlink, Path: "b"}, api.OK)
	b, _ = do(t, b, api.Req{Op: api.OpWrite, H: 3, Data: []byte("J")}, api.ErrAccess)
	if len(lines(b)) != 5 {
		t.Error(lines(b))
	}
	b, _ = do(t, b, api.Req{Op: api.OpOpen, Path: "/d/x", Flags: 1}, api.OK)
	b, _ = do(t, b, api.Req{Op: api.OpWrite, H: 4, Data: []byte("J")}, api.ErrBadf)
	if lines(b)[6] != "6 allow write /d/x" {
		t.Error(lines(b))
	}
}

// P22.4: a file too deep for a path cannot be written.
func TestWriteTooDeep(t *testing.T) {
	b := boot(t, all)
	for i := range 6 {
		name := fmt.Sprintf("%032d", i)
		b, _ = do(t, b, api.Req{Op: api.OpMkdir, Path: name, N: 7}, api.OK)
		b, _ = do(t, b, api.Req{Op: api.OpChdir, Path: name}, api.OK)
	}
	long := strings.Repeat("g", 25)
	b, _ = do(t, b, api.Req{Op: api.OpMkdir, Path: "g", N: 7}, api.OK)
	b, _ = do(t, b, api.Req{Op: api.OpOpen, Path: "g/" + strings.Repeat("f", 32), Flags: 6, N: 6}, api.OK)
	b, _ = do(t, b, api.Req{Op: api.OpRename, Path: "g", Path2: long[1:]}, api.OK)
	b, _ = do(t, b, api.Req{Op: api.OpWrite, H: 3, Data: []byte("x")}, api.OK)
	b, _ = do(t, b, api.Req{Op: api.OpRename, Path: long[1:], Path2: long}, api.OK)
	n := len(lines(b))
	b, _ = do(t, b, api.Req{Op: api.OpWrite, H: 3, Data: []byte("x")}, api.ErrNameLong)
	if len(lines(b)) != n {
		t.Error(lines(b))
	}
}

// P22.4, P22.5
func TestSpawn(t *testing.T) {
	b := boot(t, "allow spawn /bin/* args echo *\nenv keep A B\nenv set C=3")
	r := api.Req{Op: api.OpSpawn, Path: "bin/echo", Args: []string{"echo", "hi"}, Env: []string{"B=2", "bad", "A=1", "X=9"}, Fds: []int{-1, 1, 2}}
	settings := []string{"A=1", "B=2", "C=3"}
	got, rep := do(t, b, r, api.OK)
	want := api.Issued{Op: api.OpSpawn, Path: "/bin/echo", Args: r.Args, Env: settings, Node: echo}
	if rep.N != 1 || !reflect.DeepEqual(got.Trace, []api.Issued{want}) || !slices.Equal(got.Kern.Procs[0].Env, settings) || !slices.Equal(got.Kern.Procs[0].Args, r.Args) || !slices.Equal(got.Kern.Procs[0].Fds, []int{-1, 1, 2}) {
		t.Errorf("%+v", got.Trace)
	}
	if digest := audit.Records(got.Log)[0].Digest; !bytes.Equal(digest, policy.Digest(r.Args, settings)) {
		t.Error("digest")
	}
	got, _ = do(t, got, api.Req{Op: api.OpWait, N: 1}, api.ErrAgain)
	got, rep = do(t, got, api.Req{Op: api.OpPump, N: 20}, api.OK)
	if rep.N != 2 || string(got.Kern.Out) != "hi\n" {
		t.Error(rep)
	}
	if _, rep = do(t, got, api.Req{Op: api.OpWait, N: 1}, api.OK); rep.N != 0 {
		t.Error(rep)
	}
	r.Args = []string{"echo"}
	denied, _ := do(t, b, r, api.ErrAccess)
	if len(denied.Kern.Procs) != 0 || !strings.HasPrefix(lines(denied)[0], "0 deny spawn /bin/echo ") {
		t.Error(lines(denied))
	}
	b = boot(t, all)
	for _, c := range []struct {
		path string
		fds  []int
		want api.Errno
	}{{"q", []int{9, 9, 9}, api.ErrNoEnt}, {"bin/echo", []int{0, 1, 3}, api.ErrBadf}, {"bin/echo", []int{-2, 1, 2}, api.ErrBadf}, {"a", []int{3, 1, 2}, api.ErrBadf}, {"a", []int{0, 1, 2}, api.ErrAccess}, {"d", []int{0, 1, 2}, api.ErrIsDir}} {
		if got, _ := do(t, b, api.Req{Op: api.OpSpawn, Path: c.path, Fds: c.fds}, c.want); len(got.Trace) != 1 || !reflect.DeepEqual(got.Kern, b.Kern) {
			t.Error(c)
		}
	}
}

// P22.3
func TestChoice(t *testing.T) {
	b := boot(t, all)
	for _, fd := range []int{1, 2} {
		b, _ = do(t, b, api.Req{Op: api.OpSpawn, Path: "bin/echo", Args: []string{"echo", "x"}, Fds: []int{-1, fd, -1}}, api.OK)
	}
	got, rep := Handle(b, api.Req{Op: api.OpPump, N: 1}, []int{1})
	if rep.N != 1 || string(got.Kern.Err) != "x\n" || len(got.Kern.Out) != 0 {
		t.Error(rep)
	}
	got, _ = do(t, got, api.Req{Op: api.OpKill, N: 1}, api.OK)
	if _, rep := do(t, got, api.Req{Op: api.OpWait, N: 1}, api.OK); rep.N != 137 {
		t.Error(rep)
	}
}

// P22.5
func TestPerforming(t *testing.T) {
	b := boot(t, all)
	_, rep := do(t, b, api.Req{Op: api.OpStat, Path: "a"}, api.OK)
	if !reflect.DeepEqual(rep, api.Rep{N: 1, H: 5, H2: 6}) {
		t.Error(rep)
	}
	_, rep = do(t, b, api.Req{Op: api.OpReaddir, Path: "/"}, api.OK)
	if !slices.Equal(rep.Names, []string{"a", "bin", "d", "l", "loop", "shut"}) {
		t.Error(rep)
	}
	got, _ := do(t, b, api.Req{Op: api.OpChdir, Path: "l"}, api.OK)
	if got.Cwd != d {
		t.Error(got.Cwd)
	}
	got, rep = do(t, got, api.Req{Op: api.OpOpen, Path: "x", Flags: 1}, api.OK)
	if where, ok := Path(got, rep.H); where != "/d/x" || !ok {
		t.Error(where, ok)
	}
	got, rep = do(t, got, api.Req{Op: api.OpOpen, Path: "n", Flags: 6, N: 3}, api.OK)
	if n := got.Kern.Fs.Nodes[9]; n.Mode != 3 || rep.H != 4 || got.Trace[2].Node != -1 {
		t.Error(n, rep)
	}
	got, _ = do(t, got, api.Req{Op: api.OpUnlink, Path: "x"}, api.OK)
	if _, ok := node.Where(got.Kern.Fs, x); ok {
		t.Error("unlinked")
	}
	got, _ = do(t, got, api.Req{Op: api.OpRename, Path: "n", Path2: "../m"}, api.OK)
	got, _ = do(t, got, api.Req{Op: api.OpMkdir, Path: "/e", N: 5}, api.OK)
	if all := node.All(got.Kern.Fs); !slices.Equal(all, []string{"/", "/a", "/bin", "/bin/echo", "/d", "/e", "/l", "/loop", "/m", "/shut"}) {
		t.Error(all)
	}
}

// P22.5: more than 120 names do not fit.
func TestManyNames(t *testing.T) {
	f := sampleFs()
	for i := range 121 {
		f.Nodes[shut].Names = append(f.Nodes[shut].Names, api.Name{Name: fmt.Sprintf("%032d", i), Node: a})
	}
	f.Nodes[shut].Mode, f.Nodes[a].Links = 7, 122
	room, _ := disk.New(1000)
	b, e := New(all, f, nil, room)
	if e != api.OK {
		t.Fatal(e)
	}
	b, _ = do(t, b, api.Req{Op: api.OpReaddir, Path: "shut"}, api.ErrLimit)
	b, _ = do(t, b, api.Req{Op: api.OpUnlink, Path: "shut/" + fmt.Sprintf("%032d", 7)}, api.OK)
	if _, rep := do(t, b, api.Req{Op: api.OpReaddir, Path: "shut"}, api.OK); len(rep.Names) != 120 {
		t.Error(len(rep.Names))
	}
}

// P22.2, P22.6
func TestCallsAndBound(t *testing.T) {
	if Bound() != 2*(resolve.Most()+api.MaxHops)+2 {
		t.Error(Bound())
	}
	b := boot(t, all)
	for _, c := range []struct {
		r     api.Req
		calls int
	}{
		{api.Req{Op: api.OpPipe}, 1}, {api.Req{Op: api.OpStat, Path: "/l/x"}, 6}, {api.Req{Op: api.OpStat, Path: "/a/x"}, 2}, {api.Req{Op: api.OpRename, Path: "/a", Path2: "/d/q"}, 5}, {api.Req{Op: api.OpRename, Path: "/d/q", Path2: "/q/q"}, 4}, {api.Req{Op: api.OpStat, Path: "/q"}, 3},
	} {
		got, _ := Handle(b, c.r, nil)
		if got.Calls-b.Calls != c.calls || c.calls > Bound() {
			t.Errorf("%+v: %d", c.r, got.Calls-b.Calls)
		}
		b = got
	}
	if denied, _ := Handle(boot(t, ""), api.Req{Op: api.OpStat, Path: "/l/x"}, nil); denied.Calls != 5 {
		t.Error(denied.Calls)
	}
}

// P22.6
func TestPath(t *testing.T) {
	b := boot(t, all)
	b, _ = do(t, b, api.Req{Op: api.OpOpen, Path: "/d", Flags: 1}, api.OK)
	b, _ = do(t, b, api.Req{Op: api.OpPipe}, api.OK)
	b.Cwd = -1
	if where, ok := Path(b, 3); where != "/d" || !ok {
		t.Error(where, ok)
	}
	for _, h := range []int{0, 1, 4, 5, 9, -1, 16, math.MaxInt} {
		if where, ok := Path(b, h); where != "" || ok {
			t.Error(h, where, ok)
		}
	}
	b.Kern.Pids = -1
	if where, ok := Path(b, 3); where != "" || ok {
		t.Error(where, ok)
	}
	lost := boot(t, all)
	lost, _ = do(t, lost, api.Req{Op: api.OpOpen, Path: "/a", Flags: 1}, api.OK)
	lost, _ = do(t, lost, api.Req{Op: api.OpUnlink, Path: "/a"}, api.OK)
	if where, ok := Path(lost, 3); where != "" || ok {
		t.Error(where, ok)
	}
}

// P22.4, P22.7: if nothing can be recorded, nothing governed is performed.
func TestFailClosed(t *testing.T) {
	for _, room := range []int{0, 50, 100} {
		for power := -1; power < 4; power++ {
			start, _ := disk.New(room)
			b, _ := New(all, sampleFs(), nil, disk.Arm(start, power))
			failed := false
			for i := range 4 {
				got, rep := Handle(b, api.Req{Op: api.OpMkdir, Path: fmt.Sprint("/n", i), N: 7}, nil)
				failed = failed || rep.Err == api.ErrAudit
				if failed && (rep.Err != api.ErrAudit || !got.Log.Stop || !reflect.DeepEqual(got.Kern, b.Kern) || len(got.Trace) != len(b.Trace)) || !Check(got) {
					t.Fatalf("room %d, power %d: %+v", room, power, rep)
				}
				if !failed && (rep.Err != api.OK || len(audit.Records(got.Log)) != i+1) {
					t.Fatalf("room %d, power %d: %+v", room, power, rep)
				}
				b = got
			}
			if !failed {
				t.Fatal("there is room for at most two records")
			}
			if _, rep := Handle(b, api.Req{Op: api.OpPipe}, nil); rep.Err != api.OK {
				t.Error(rep)
			}
		}
	}
}

// P22.7
func TestConsequences(t *testing.T) {
	texts := []string{all, "", "root /d\nallow * /**", "deny * /d/**\nallow * /**", "allow stat,open,rename /d/*\nallow unlink /a"}
	for _, text := range texts {
		b := boot(t, text)
		p, _ := rules.Parse(text)
		for i := range 200 {
			paths := []string{"/a", "l/x", "d/../l", "..", "x", "d/n", "l", "/q"}
			r := api.Req{Op: []int{1, 9, 10, 11, 12, 13, 14}[i%7], Path: paths[i*3%8]}
			switch r.Op {
			case api.OpOpen:
				r.Flags = i % 64
			case api.OpRename:
				r.Path2 = paths[i*5%8]
			}
			got, rep := Handle(b, r, nil)
			if !Check(got) {
				t.Fatal(r)
			}
			if len(got.Trace) == len(b.Trace) {
				if !reflect.DeepEqual(got.Kern, b.Kern) || got.Cwd != b.Cwd || rep.Err == api.OK {
					t.Fatalf("%+v changes something without being issued", r)
				}
			} else {
				x := got.Trace[len(got.Trace)-1]
				f, e := resolve.Resolve(b.Kern.Fs, 0, x.Path, false)
				last := audit.Records(got.Log)[got.Log.Seq-1]
				if e != api.OK || f.Node != x.Node || f.Path != x.Path || !policy.Permit(p, x.Op, x.Path, x.Path2, x.Args) || !last.Allow || last.Path != x.Path || last.Path2 != x.Path2 || last.Op != x.Op {
					t.Fatalf("%+v is issued as %+v", r, x)
				}
			}
			b = got
		}
	}
	if k := boot(t, all).Kern; !desc.Check(k) {
		t.Error("kernel")
	}
}
