package proc

import (
	"bytes"
	"math"
	"reflect"
	"slices"
	"strings"
	"testing"

	"turnkey/api"
	"turnkey/clone"
	"turnkey/desc"
)

// The nodes of the kernel of boot: programs by their names, and others.
const (
	echo = 1 + iota
	cat
	wc
	yes
	fail
	closed
	text
	dir
	link
)

func boot(t *testing.T, in string) api.Kern {
	t.Helper()
	f := api.Fs{Nodes: []api.Node{{Kind: 2, Mode: 7, Links: 1}}}
	for _, n := range []struct {
		name string
		node api.Node
	}{
		{"a-echo", api.Node{Kind: 1, Mode: 5, Data: []byte("#!echo\n")}}, {"b-cat", api.Node{Kind: 1, Mode: 1, Data: []byte("#!cat")}}, {"c-wc", api.Node{Kind: 1, Mode: 5, Data: []byte("#!wc\n")}}, {"d-yes", api.Node{Kind: 1, Mode: 5, Data: []byte("#!yes\n")}}, {"e-fail", api.Node{Kind: 1, Mode: 5, Data: []byte("#!fail\n")}},
		{"f-closed", api.Node{Kind: 1, Mode: 6, Data: []byte("#!echo\n")}}, {"g-text", api.Node{Kind: 1, Mode: 7, Data: []byte("echo\n")}}, {"h-dir", api.Node{Kind: 2, Mode: 7}}, {"i-link", api.Node{Kind: 3, Mode: 7, To: "a-echo"}},
	} {
		n.node.Links = 1
		f.Nodes[0].Names = append(f.Nodes[0].Names, api.Name{Name: n.name, Node: len(f.Nodes)})
		f.Nodes = append(f.Nodes, n.node)
	}
	k, e := desc.Boot(f, []byte(in))
	if e != api.OK {
		t.Fatal(e)
	}
	return k
}

func spawn(t *testing.T, k *api.Kern, node int, fds []int, args ...string) int {
	t.Helper()
	out, pid, e := Spawn(*k, node, args, []string{"A=1"}, fds)
	if e != api.OK || !desc.Check(out) {
		t.Fatal(e)
	}
	*k = out
	return pid
}

// pump lets all children go on until none can.
func pump(t *testing.T, k *api.Kern, choice ...int) int {
	t.Helper()
	out, n, e := Pump(*k, choice, 1000)
	if e != api.OK || !desc.Check(out) {
		t.Fatal(e)
	}
	*k = out
	return n
}

// P19.1
func TestSpawn(t *testing.T) {
	k := boot(t, "")
	got, pid, e := Spawn(k, echo, []string{"echo", "x"}, []string{"A=1"}, []int{-1, 1, 1})
	want := api.Proc{Pid: 1, Prog: "echo", Args: []string{"echo", "x"}, Env: []string{"A=1"}, Fds: []int{-1, 1, 1}}
	if pid != 1 || e != api.OK || !reflect.DeepEqual(got.Procs, []api.Proc{want}) || got.Pids != 1 || got.Descs[1].Refs != 3 || !desc.Check(got) {
		t.Errorf("%+v, %d, %d", got.Procs, pid, e)
	}
	freed, _ := desc.Close(k, 2)
	bad := clone.Kern(k)
	bad.Pids = -1
	last := clone.Kern(k)
	last.Pids = 1 << 30
	many := clone.Kern(k)
	for range 8 {
		spawn(t, &many, cat, []int{-1, -1, -1})
	}
	std := []int{0, 1, 2}
	for _, c := range []struct {
		k    api.Kern
		node int
		fds  []int
		want api.Errno
	}{
		{bad, echo, std, api.ErrArg}, {k, -1, std, api.ErrArg}, {k, 10, std, api.ErrArg}, {k, dir, nil, api.ErrIsDir}, {k, 0, std, api.ErrIsDir}, {k, link, nil, api.ErrNoExec}, {k, closed, nil, api.ErrAccess}, {k, text, nil, api.ErrNoExec},
		{k, echo, nil, api.ErrArg}, {k, echo, []int{0, 1}, api.ErrArg}, {k, echo, []int{0, 1, 2, -1}, api.ErrArg}, {k, echo, []int{0, 1, 3}, api.ErrBadf}, {k, echo, []int{-2, 1, 2}, api.ErrBadf}, {freed, echo, std, api.ErrBadf}, {k, echo, []int{0, 1, math.MaxInt}, api.ErrBadf},
		{many, echo, std, api.ErrMany}, {last, echo, std, api.ErrMany}, {many, echo, []int{9, 9, 9}, api.ErrBadf},
	} {
		got, pid, e := Spawn(c.k, c.node, nil, nil, c.fds)
		if e != c.want || pid != 0 || !reflect.DeepEqual(got, clone.Kern(c.k)) {
			t.Errorf("Spawn(%d, %v) = %d, %d; want %d", c.node, c.fds, pid, e, c.want)
		}
	}
}

// P19.2
func TestStep(t *testing.T) {
	k := boot(t, "")
	pid := spawn(t, &k, echo, []int{-1, 1, -1}, "echo", "a", "b")
	k, ok, e := Step(k, pid)
	if !ok || e != api.OK || string(k.Out) != "a b\n" || k.Procs[0].Done || k.Procs[0].Phase != 4 {
		t.Errorf("%+v, %v, %d", k.Procs, ok, e)
	}
	k, ok, e = Step(k, pid)
	if !ok || e != api.OK || !k.Procs[0].Done || k.Procs[0].Status != 0 || !slices.Equal(k.Procs[0].Fds, []int{-1, -1, -1}) || k.Descs[1].Refs != 1 || !desc.Check(k) {
		t.Errorf("%+v, %v, %d", k.Procs, ok, e)
	}
	if got, ok, e := Step(k, pid); ok || e != api.OK || !reflect.DeepEqual(got, k) {
		t.Error(ok, e)
	}
	for _, pid := range []int{0, 2, -1, math.MaxInt} {
		if got, ok, e := Step(k, pid); ok || e != api.ErrChild || !reflect.DeepEqual(got, k) {
			t.Error(pid, ok, e)
		}
	}
	bad := clone.Kern(k)
	bad.Pids = -1
	if got, ok, e := Step(bad, pid); ok || e != api.ErrArg || !reflect.DeepEqual(got, bad) {
		t.Error(ok, e)
	}
}

// P19.2
func TestStepWithoutDescs(t *testing.T) {
	k := boot(t, "")
	a := spawn(t, &k, cat, []int{-1, -1, -1}, "cat")
	b := spawn(t, &k, echo, []int{-1, 0, -1}, "echo")
	for _, pid := range []int{a, b} {
		for range 2 {
			var ok bool
			var e api.Errno
			if k, ok, e = Step(k, pid); !ok || e != api.OK {
				t.Fatal(pid, ok, e)
			}
		}
	}
	if k.Procs[0].Status != 1 || k.Procs[1].Status != 1 || !k.Procs[0].Done || !k.Procs[1].Done {
		t.Errorf("%+v", k.Procs)
	}
}

// P19.2: a child that has to wait does not change.
func TestBlocked(t *testing.T) {
	k, _, _, _ := desc.Pipe(boot(t, ""))
	reader := spawn(t, &k, cat, []int{3, 1, -1}, "cat")
	if got, ok, e := Step(k, reader); ok || e != api.OK || !reflect.DeepEqual(got, k) {
		t.Error(ok, e)
	}
	if len(Ready(k)) != 0 {
		t.Error(Ready(k))
	}
	writer := spawn(t, &k, yes, []int{-1, 4, -1}, "yes")
	if !slices.Equal(Ready(k), []int{writer}) {
		t.Error(Ready(k))
	}
	k, _, _ = Step(k, writer)
	if !slices.Equal(Ready(k), []int{reader, writer}) {
		t.Error(Ready(k))
	}
	for range 31 {
		k, _, _ = Step(k, writer)
	}
	if got, ok, e := Step(k, writer); ok || e != api.OK || !reflect.DeepEqual(got, k) || len(k.Pipes[0].Data) != 64 {
		t.Error(ok, e, k.Pipes)
	}
}

// P19.3
func TestReady(t *testing.T) {
	k := boot(t, "")
	a := spawn(t, &k, fail, []int{-1, -1, -1}, "fail", "7")
	b := spawn(t, &k, cat, []int{0, 1, 2}, "cat")
	if !slices.Equal(Ready(k), []int{a, b}) {
		t.Error(Ready(k))
	}
	k, _, _ = Step(k, a)
	if !slices.Equal(Ready(k), []int{b}) {
		t.Error(Ready(k))
	}
	k.Pids = -1
	if len(Ready(k)) != 0 {
		t.Error(Ready(k))
	}
}

// P19.3
func TestPump(t *testing.T) {
	start := boot(t, "")
	spawn(t, &start, yes, []int{-1, 1, -1}, "yes")
	spawn(t, &start, yes, []int{-1, 2, -1}, "yes")
	for _, c := range []struct {
		choice   []int
		n        int
		out, err int
	}{
		{nil, 0, 0, 0}, {nil, 3, 3, 0}, {[]int{1, 0, 1}, 3, 1, 2}, {[]int{3, 2, 5}, 3, 1, 2}, {[]int{-1, math.MinInt, 1}, 5, 4, 1}, {[]int{1, 1, 1}, 2, 0, 2}, {[]int{math.MaxInt}, 1, 0, 1},
	} {
		k, n, e := Pump(start, c.choice, c.n)
		if e != api.OK || n != c.n || len(k.Out) != 2*c.out || len(k.Err) != 2*c.err || !desc.Check(k) {
			t.Errorf("Pump(%v, %d) = %d, %d: %q, %q", c.choice, c.n, n, e, k.Out, k.Err)
		}
	}
	for _, n := range []int{-1, 10001, math.MaxInt} {
		if got, count, e := Pump(start, nil, n); e != api.ErrArg || count != 0 || !reflect.DeepEqual(got, start) {
			t.Error(n, count, e)
		}
	}
	if _, n, e := Pump(boot(t, ""), nil, 10000); n != 0 || e != api.OK {
		t.Error(n, e)
	}
	bad := clone.Kern(start)
	bad.Pids = -1
	if got, n, e := Pump(bad, nil, 1); e != api.ErrArg || n != 0 || !reflect.DeepEqual(got, bad) {
		t.Error(n, e)
	}
}

// P19.3
func TestPipeline(t *testing.T) {
	text := strings.Repeat("some lines\n", 40)
	k, _, _, _ := desc.Pipe(boot(t, text))
	spawn(t, &k, cat, []int{0, 4, -1}, "cat")
	spawn(t, &k, wc, []int{3, 1, -1}, "wc", "-l")
	k, _ = desc.Close(k, 3)
	k, _ = desc.Close(k, 4)
	pump(t, &k)
	if string(k.Out) != "40\n" || !k.Procs[0].Done || !k.Procs[1].Done {
		t.Errorf("%q", k.Out)
	}
}

// P19.4
func TestKillAndWait(t *testing.T) {
	k := boot(t, "")
	a := spawn(t, &k, cat, []int{0, 1, 2}, "cat")
	b := spawn(t, &k, fail, []int{0, 1, 2}, "fail", "9")
	c := spawn(t, &k, echo, []int{0, 1, 2}, "echo")
	if got, status, e := Wait(k, b); e != api.ErrAgain || status != 0 || !reflect.DeepEqual(got, k) {
		t.Error(status, e)
	}
	k, e := Kill(k, a)
	if e != api.OK || !k.Procs[0].Done || k.Procs[0].Status != 137 || k.Descs[0].Refs != 3 || !desc.Check(k) {
		t.Errorf("%+v, %d", k.Procs[0], e)
	}
	k, _, _ = Step(k, b)
	if got, e := Kill(k, b); e != api.OK || !reflect.DeepEqual(got, k) {
		t.Error(e)
	}
	k, status, e := Wait(k, b)
	if status != 9 || e != api.OK || len(k.Procs) != 2 || k.Procs[0].Pid != a || k.Procs[1].Pid != c || !desc.Check(k) {
		t.Error(status, e)
	}
	k, status, e = Wait(k, a)
	if status != 137 || e != api.OK || len(k.Procs) != 1 {
		t.Error(status, e)
	}
	if d := spawn(t, &k, echo, []int{-1, -1, -1}); d != 4 {
		t.Error(d)
	}
	for _, pid := range []int{a, b, 0, 99} {
		got, e := Kill(k, pid)
		got2, status, e2 := Wait(k, pid)
		if e != api.ErrChild || e2 != api.ErrChild || status != 0 || !reflect.DeepEqual(got, k) || !reflect.DeepEqual(got2, k) {
			t.Error(pid, e, e2)
		}
	}
	bad := clone.Kern(k)
	bad.Pids = -1
	got, e := Kill(bad, c)
	got2, _, e2 := Wait(bad, c)
	if e != api.ErrArg || e2 != api.ErrArg || !reflect.DeepEqual(got, bad) || !reflect.DeepEqual(got2, bad) {
		t.Error(e, e2)
	}
}

// P19.5
func TestChoicesDoNotMatter(t *testing.T) {
	var want []byte
	for seed := range 30 {
		k := boot(t, "")
		k, r1, w1, _ := desc.Pipe(k)
		k, r2, w2, _ := desc.Pipe(k)
		spawn(t, &k, echo, []int{-1, 4, -1}, "echo", strings.Repeat("long ", 50))
		spawn(t, &k, echo, []int{-1, 6, -1}, "echo", strings.Repeat("x", 200))
		spawn(t, &k, cat, []int{3, 1, -1}, "cat")
		spawn(t, &k, wc, []int{5, 2, -1}, "wc")
		for _, h := range []int{r1, w1, r2, w2} {
			k, _ = desc.Close(k, h)
		}
		var choice []int
		for i := range 500 {
			choice = append(choice, (i*i*7+seed*13)%(seed+2))
		}
		pump(t, &k, choice...)
		got := slices.Concat(k.Out, []byte{0}, k.Err)
		if want == nil {
			want = got
		}
		if !bytes.Equal(got, want) || string(k.Err) != "201\n" {
			t.Errorf("seed %d: %q", seed, got)
		}
	}
}
