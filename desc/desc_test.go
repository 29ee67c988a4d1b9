package desc

import (
	"bytes"
	"math"
	"reflect"
	"slices"
	"testing"

	"turnkey/api"
	"turnkey/clone"
)

// sampleFs has /f (1), /d (2) and /l (3).
func sampleFs() api.Fs {
	return api.Fs{Nodes: []api.Node{
		{Kind: 2, Mode: 7, Links: 1, Names: []api.Name{{Name: "d", Node: 2}, {Name: "f", Node: 1}, {Name: "l", Node: 3}}},
		{Kind: 1, Mode: 6, Links: 1, Data: []byte("hello")}, {Kind: 2, Mode: 7, Links: 1}, {Kind: 3, Links: 1, To: "f"},
	}}
}

func boot(t *testing.T) api.Kern {
	t.Helper()
	k, e := Boot(sampleFs(), []byte("input"))
	if e != api.OK || !Check(k) {
		t.Fatal(e)
	}
	return k
}

func mustBeValid(t *testing.T, k api.Kern) {
	t.Helper()
	if !Check(k) {
		t.Fatalf("not valid: %+v", k)
	}
}

// store opens a Desc in a kernel and returns its handle.
func store(t *testing.T, k *api.Kern, d api.Desc) int {
	t.Helper()
	got, h, e := Put(*k, d)
	if e != api.OK {
		t.Fatal(e)
	}
	mustBeValid(t, got)
	*k = got
	return h
}

// P17.1
func TestBoot(t *testing.T) {
	k := boot(t)
	want := api.Kern{
		Fs: sampleFs(), In: []byte("input"),
		Descs: []api.Desc{{Kind: 5, Refs: 1}, {Kind: 6, Refs: 1}, {Kind: 7, Refs: 1}},
		Table: []int{0, 1, 2, -1, -1, -1, -1, -1, -1, -1, -1, -1, -1, -1, -1, -1},
	}
	if !reflect.DeepEqual(k, want) {
		t.Errorf("%+v", k)
	}
	bad := sampleFs()
	bad.Nodes[1].Links = 2
	if k, e := Boot(bad, nil); e != api.ErrArg || !reflect.DeepEqual(k, api.Kern{}) {
		t.Error(e)
	}
	if k, e := Boot(sampleFs(), make([]byte, 16385)); e != api.ErrArg || !reflect.DeepEqual(k, api.Kern{}) {
		t.Error(e)
	}
	if k, e := Boot(sampleFs(), make([]byte, 16384)); e != api.OK || !Check(k) {
		t.Error(e)
	}
	f := sampleFs()
	k, _ = Boot(f, nil)
	k.Fs.Nodes[1].Data[0] = 'J'
	if f.Nodes[1].Data[0] != 'h' {
		t.Error("the file system is shared")
	}
}

// busy returns a kernel with a pipe (handles 3 and 4), an open file (5), a directory (6) and two children.
func busy(t *testing.T) api.Kern {
	t.Helper()
	k, _, _, e := Pipe(boot(t))
	if e != api.OK {
		t.Fatal(e)
	}
	store(t, &k, api.Desc{Kind: api.DescFile, Node: 1, Flags: 3})
	store(t, &k, api.Desc{Kind: api.DescDir, Node: 2, Flags: 1})
	k.Pids = 5
	k.Procs = []api.Proc{{Pid: 2, Fds: []int{-1, 1, 3}}, {Pid: 5, Done: true, Status: 255, Fds: []int{-1, -1, -1}}}
	k.Descs[1].Refs++
	k.Descs[3].Refs++
	mustBeValid(t, k)
	return k
}

func broken(t *testing.T) map[string]api.Kern {
	out := map[string]api.Kern{"zero": {}}
	for name, spoil := range map[string]func(*api.Kern){
		"fs":                  func(k *api.Kern) { k.Fs.Nodes[1].Links = 9 },
		"pipes":               func(k *api.Kern) { k.Pipes = append(k.Pipes, make([]api.Pipe, 64)...) },
		"pipe data":           func(k *api.Kern) { k.Pipes[0].Data = make([]byte, 65) },
		"readers":             func(k *api.Kern) { k.Pipes[0].Readers = 2 },
		"writers":             func(k *api.Kern) { k.Pipes[0].Writers = 0 },
		"descs":               func(k *api.Kern) { k.Descs = append(k.Descs, slices.Repeat([]api.Desc{{Kind: 5}}, 250)...) },
		"kind 0":              func(k *api.Kern) { k.Descs = append(k.Descs, api.Desc{}) },
		"kind 8":              func(k *api.Kern) { k.Descs = append(k.Descs, api.Desc{Kind: 8}) },
		"kind -1":             func(k *api.Kern) { k.Descs = append(k.Descs, api.Desc{Kind: -1}) },
		"off":                 func(k *api.Kern) { k.Descs[0].Off = -1 },
		"off above":           func(k *api.Kern) { k.Descs[0].Off = 4097 },
		"flags":               func(k *api.Kern) { k.Descs[0].Flags = 64 },
		"negative flags":      func(k *api.Kern) { k.Descs[0].Flags = -1 },
		"negative refs":       func(k *api.Kern) { k.Descs = append(k.Descs, api.Desc{Kind: 5, Refs: -1}) },
		"file of a directory": func(k *api.Kern) { k.Descs[5].Node = 2 },
		"file of a link":      func(k *api.Kern) { k.Descs[5].Node = 3 },
		"file without a node": func(k *api.Kern) { k.Descs[5].Node = 4 },
		"file of node -1":     func(k *api.Kern) { k.Descs[5].Node = -1 },
		"directory of a file": func(k *api.Kern) { k.Descs[6].Node = 1 },
		"file with a pipe":    func(k *api.Kern) { k.Pipes = append(k.Pipes, api.Pipe{}); k.Descs[5].Pipe = 1 },
		"pipe with a node":    func(k *api.Kern) { k.Descs[3].Node = 1 },
		"no such pipe":        func(k *api.Kern) { k.Descs = append(k.Descs, api.Desc{Kind: 3, Pipe: 1}) },
		"stream with a node":  func(k *api.Kern) { k.Descs[0].Node = 1 },
		"table":               func(k *api.Kern) { k.Table = k.Table[:15] },
		"handle":              func(k *api.Kern) { k.Table[9] = 7 },
		"negative handle":     func(k *api.Kern) { k.Table[9] = -2 },
		"refs of a handle":    func(k *api.Kern) { k.Table[9] = 0 },
		"refs of a child":     func(k *api.Kern) { k.Procs[0].Fds[0] = 0 },
		"lost refs":           func(k *api.Kern) { k.Table[5] = -1 },
		"children":            func(k *api.Kern) { k.Procs = many(9); k.Pids = 9; k.Descs[1].Refs--; k.Descs[3].Refs-- },
		"pid order":           func(k *api.Kern) { k.Procs[1].Pid = 2 },
		"pid 0":               func(k *api.Kern) { k.Procs[0].Pid = 0 },
		"pid above":           func(k *api.Kern) { k.Pids = 4 },
		"status":              func(k *api.Kern) { k.Procs[0].Status = 256 },
		"negative status":     func(k *api.Kern) { k.Procs[0].Status = -1 },
		"two fds":             func(k *api.Kern) { k.Procs[1].Fds = []int{-1, -1} },
		"fd":                  func(k *api.Kern) { k.Procs[0].Fds[0] = 7 },
		"fd -2":               func(k *api.Kern) { k.Procs[0].Fds[0] = -2 },
		"done with fds":       func(k *api.Kern) { k.Procs[0].Done = true },
		"in":                  func(k *api.Kern) { k.In = make([]byte, 16385) },
		"out":                 func(k *api.Kern) { k.Out = make([]byte, 16385) },
		"err":                 func(k *api.Kern) { k.Err = make([]byte, 16385) },
		"pids":                func(k *api.Kern) { k.Pids = 1<<30 + 1 },
		"negative pids":       func(k *api.Kern) { k.Procs = nil; k.Descs[1].Refs--; k.Descs[3].Refs--; k.Pids = -1 },
	} {
		k := clone.Kern(busy(t))
		spoil(&k)
		out[name] = k
	}
	return out
}

func many(n int) []api.Proc {
	var out []api.Proc
	for i := range n {
		out = append(out, api.Proc{Pid: i + 1, Fds: []int{-1, -1, -1}})
	}
	return out
}

// P17.2
func TestCheck(t *testing.T) {
	full := boot(t)
	full.Pids, full.Procs = 1<<30, many(8)
	full.Descs = append(full.Descs, slices.Repeat([]api.Desc{{Kind: 1, Node: 1, Off: 4096, Flags: 63}}, 253)...)
	full.Pipes = make([]api.Pipe, 64)
	full.In, full.Out, full.Err = make([]byte, 16384), make([]byte, 16384), make([]byte, 16384)
	mustBeValid(t, full)
	for name, k := range broken(t) {
		if Check(k) {
			t.Error(name)
		}
	}
}

// P17.2: an invalid kernel comes back as it is.
func TestInvalidKernels(t *testing.T) {
	for name, k := range broken(t) {
		k1, h1, e1 := Put(k, api.Desc{Kind: 5})
		h2, e2 := Get(k, 0)
		k3, e3 := Close(k, 0)
		k4, h4, e4 := Dup(k, 0)
		k5, h5, h6, e5 := Pipe(k)
		k6, e6 := Refer(k, 0, 1)
		k7, b7, e7 := Read(k, 0, 1)
		k8, n8, e8 := Write(k, 1, []byte{1})
		for i, e := range []api.Errno{e1, e2, e3, e4, e5, e6, e7, e8} {
			if e != api.ErrArg {
				t.Error(name, i, e)
			}
		}
		if h1 != 0 || h2 != 0 || h4 != 0 || h5 != 0 || h6 != 0 || len(b7) != 0 || n8 != 0 {
			t.Error(name)
		}
		for i, got := range []api.Kern{k1, k3, k4, k5, k6, k7, k8} {
			if !reflect.DeepEqual(clone.Kern(got), clone.Kern(k)) {
				t.Error(name, i)
			}
		}
	}
}

// P17.3
func TestPutAndGet(t *testing.T) {
	k := busy(t)
	h := store(t, &k, api.Desc{Kind: api.DescRead, Pipe: 0, Refs: 77})
	d, e := Get(k, h)
	if h != 7 || e != api.OK || d != 7 || k.Descs[d].Refs != 1 || k.Pipes[0].Readers != 2 {
		t.Error(h, d, e, k.Pipes)
	}
	k, e = Close(k, 5)
	mustBeValid(t, k)
	if e != api.OK || k.Descs[5].Refs != 0 {
		t.Error(e)
	}
	if h := store(t, &k, api.Desc{Kind: api.DescDir, Node: 0, Flags: 1}); h != 5 || k.Table[5] != 5 {
		t.Error("the first free Desc and handle are taken", h, k.Table)
	}
	for _, h := range []int{-1, 8, 15, 16, math.MaxInt, math.MinInt} {
		if d, e := Get(k, h); d != 0 || e != api.ErrBadf {
			t.Error(h, d, e)
		}
	}
	for _, d := range []api.Desc{{}, {Kind: 8}, {Kind: 1, Node: 2}, {Kind: 1, Node: 9}, {Kind: 2, Node: 1}, {Kind: 3, Pipe: 1}, {Kind: 3, Pipe: -1}, {Kind: 5, Node: 1}, {Kind: 5, Pipe: 1}, {Kind: 5, Off: -1}, {Kind: 5, Off: 4097}, {Kind: 5, Flags: 64}} {
		if got, h, e := Put(k, d); h != 0 || e != api.ErrArg || !reflect.DeepEqual(got, clone.Kern(k)) {
			t.Errorf("%+v: %d, %d", d, h, e)
		}
	}
}

// P17.3
func TestMany(t *testing.T) {
	k := boot(t)
	for range 13 {
		store(t, &k, api.Desc{Kind: api.DescIn})
	}
	if got, h, e := Put(k, api.Desc{Kind: api.DescIn}); h != 0 || e != api.ErrMany || !reflect.DeepEqual(got, k) {
		t.Error(h, e)
	}
	if got, h, e := Dup(k, 0); h != 0 || e != api.ErrMany || !reflect.DeepEqual(got, k) {
		t.Error(h, e)
	}
	if got, a, b, e := Pipe(k); a != 0 || b != 0 || e != api.ErrMany || !reflect.DeepEqual(got, k) {
		t.Error(a, b, e)
	}
	if _, _, e := Dup(k, 16); e != api.ErrBadf {
		t.Error(e)
	}
	k, _ = Close(k, 9)
	if got, a, b, e := Pipe(k); a != 0 || b != 0 || e != api.ErrMany || !reflect.DeepEqual(got, k) {
		t.Error(a, b, e)
	}
	held := boot(t)
	held.Pids, held.Procs = 8, many(8)
	// Handles and children refer to at most 40 Descs, so 256 of them never all have Refs.
	held.Descs = append(held.Descs, slices.Repeat([]api.Desc{{Kind: 5}}, 253)...)
	mustBeValid(t, held)
	if got, h, e := Put(held, api.Desc{Kind: 5}); e != api.OK || h != 3 || got.Table[3] != 3 || len(got.Descs) != 256 {
		t.Error(h, e)
	}
}

// P17.3
func TestCloseAndDup(t *testing.T) {
	k := busy(t)
	k, h, e := Dup(k, 4)
	mustBeValid(t, k)
	if h != 7 || e != api.OK || k.Descs[4].Refs != 2 || k.Pipes[0].Writers != 1 {
		t.Error(h, e, k.Descs[4])
	}
	k, e = Close(k, 4)
	mustBeValid(t, k)
	if e != api.OK || k.Table[4] != -1 || k.Pipes[0].Writers != 1 {
		t.Error(e)
	}
	k, e = Close(k, 7)
	mustBeValid(t, k)
	if e != api.OK || k.Pipes[0].Writers != 0 || k.Descs[4].Refs != 0 {
		t.Error(e, k.Pipes)
	}
	for _, h := range []int{4, 7, -1, 16} {
		got, e := Close(k, h)
		got2, n, e2 := Dup(k, h)
		if e != api.ErrBadf || e2 != api.ErrBadf || n != 0 || !reflect.DeepEqual(got, k) || !reflect.DeepEqual(got2, k) {
			t.Error(h, e, e2)
		}
	}
}

// P17.3
func TestRefer(t *testing.T) {
	k := busy(t)
	got, e := Refer(k, 1, 1)
	if e != api.OK || got.Descs[1].Refs != 3 || Check(got) {
		t.Error(e)
	}
	got.Table[9] = 1
	mustBeValid(t, got)
	got, e = Refer(k, 4, -1)
	if e != api.OK || got.Descs[4].Refs != 0 || got.Pipes[0].Writers != 0 {
		t.Error(e)
	}
	closed, _ := Close(k, 5)
	for _, c := range []struct {
		k     api.Kern
		d, by int
	}{{k, 1, 0}, {k, 1, 2}, {k, 1, -2}, {k, 7, 1}, {k, -1, 1}, {closed, 5, 1}, {closed, 5, -1}, {k, math.MaxInt, 1}} {
		if got, e := Refer(c.k, c.d, c.by); e != api.ErrArg || !reflect.DeepEqual(got, c.k) {
			t.Error(c.d, c.by, e)
		}
	}
}

// P17.4
func TestPipe(t *testing.T) {
	k, a, b, e := Pipe(boot(t))
	mustBeValid(t, k)
	if a != 3 || b != 4 || e != api.OK || k.Descs[3].Kind != api.DescRead || k.Descs[4].Kind != api.DescWrite || !reflect.DeepEqual(k.Pipes, []api.Pipe{{Readers: 1, Writers: 1}}) {
		t.Error(a, b, e)
	}
	k, _, e = Write(k, 4, []byte("left"))
	if e != api.OK {
		t.Fatal(e)
	}
	k, c, d, e := Pipe(k)
	mustBeValid(t, k)
	if c != 5 || d != 6 || e != api.OK || len(k.Pipes) != 2 {
		t.Error(c, d, e)
	}
	k, _ = Close(k, 3)
	k, _ = Close(k, 4)
	mustBeValid(t, k)
	k, a, b, e = Pipe(k)
	mustBeValid(t, k)
	if a != 3 || b != 4 || e != api.OK || len(k.Pipes) != 2 || len(k.Pipes[0].Data) != 0 || len(k.Descs) != 7 {
		t.Error(a, b, e, k.Pipes)
	}
	full := boot(t)
	full.Pipes = make([]api.Pipe, 64)
	full, a, _, e = Pipe(full)
	if e != api.OK || full.Descs[3].Pipe != 0 || a != 3 {
		t.Error(e)
	}
}

// P17.5
func TestRead(t *testing.T) {
	k := busy(t)
	k, b, e := Read(k, 5, 2)
	if string(b) != "he" || e != api.OK || k.Descs[5].Off != 2 {
		t.Error(b, e)
	}
	k, b, e = Read(k, 5, math.MaxInt)
	if string(b) != "llo" || e != api.OK || k.Descs[5].Off != 5 {
		t.Error(b, e)
	}
	k, b, e = Read(k, 5, 1)
	if len(b) != 0 || e != api.OK {
		t.Error(b, e)
	}
	k, b, e = Read(k, 0, 3)
	if string(b) != "inp" || string(k.In) != "ut" || e != api.OK {
		t.Error(b, e)
	}
	k, _, _ = Read(k, 0, 99)
	k, b, e = Read(k, 0, 9)
	if len(b) != 0 || e != api.OK {
		t.Error(b, e)
	}
	mustBeValid(t, k)
	h := store(t, &k, api.Desc{Kind: api.DescFile, Node: 1, Flags: api.FlagWrite})
	closed, _ := Close(k, h)
	for _, c := range []struct {
		k    api.Kern
		d, n int
		want api.Errno
	}{
		{k, 3, 1, api.ErrAgain}, {k, 3, 0, api.OK}, {k, 6, 1, api.ErrIsDir}, {k, 6, -1, api.ErrArg}, {k, 7, 1, api.ErrBadf}, {k, 4, 1, api.ErrBadf}, {k, 1, 1, api.ErrBadf}, {k, 2, 1, api.ErrBadf}, {k, 5, -1, api.ErrArg}, {k, 0, -1, api.ErrArg}, {k, -1, -1, api.ErrBadf}, {k, 8, 1, api.ErrBadf}, {closed, 7, 1, api.ErrBadf},
	} {
		got, b, e := Read(c.k, c.d, c.n)
		if e != c.want || len(b) != 0 || !reflect.DeepEqual(got, clone.Kern(c.k)) {
			t.Errorf("Read(%d, %d) = %q, %d", c.d, c.n, b, e)
		}
	}
}

// P17.5
func TestWrite(t *testing.T) {
	k := busy(t)
	k, n, e := Write(k, 5, []byte("J"))
	if n != 1 || e != api.OK || string(k.Fs.Nodes[1].Data) != "Jello" || k.Descs[5].Off != 1 {
		t.Error(n, e)
	}
	h := store(t, &k, api.Desc{Kind: api.DescFile, Node: 1, Flags: api.FlagWrite | api.FlagAppend, Off: 1})
	k, n, e = Write(k, h, []byte("!!"))
	if n != 2 || e != api.OK || string(k.Fs.Nodes[1].Data) != "Jello!!" || k.Descs[h].Off != 7 {
		t.Error(n, e, k.Descs[h])
	}
	k, n, e = Write(k, 4, make([]byte, 70))
	if n != 64 || e != api.OK || len(k.Pipes[0].Data) != 64 {
		t.Error(n, e)
	}
	k, n, e = Write(k, 1, []byte("out"))
	if n != 3 || e != api.OK || string(k.Out) != "out" {
		t.Error(n, e)
	}
	k, n, e = Write(k, 2, make([]byte, 20000))
	if n != 16384 || e != api.OK || len(k.Err) != 16384 {
		t.Error(n, e)
	}
	if got, n, e := Write(k, 2, nil); n != 0 || e != api.OK || len(got.Err) != 16384 {
		t.Error(n, e)
	}
	mustBeValid(t, k)
	r := store(t, &k, api.Desc{Kind: api.DescFile, Node: 1, Flags: api.FlagRead})
	end := store(t, &k, api.Desc{Kind: api.DescFile, Node: 1, Flags: api.FlagWrite, Off: 4096})
	for _, c := range []struct {
		d    int
		want api.Errno
	}{{2, api.ErrFull}, {4, api.ErrAgain}, {6, api.ErrIsDir}, {r, api.ErrBadf}, {3, api.ErrBadf}, {0, api.ErrBadf}, {end, api.ErrFull}, {-1, api.ErrBadf}, {99, api.ErrBadf}} {
		if got, n, e := Write(k, c.d, []byte("x")); e != c.want || n != 0 || !reflect.DeepEqual(got, clone.Kern(k)) {
			t.Errorf("Write(%d) = %d, %d", c.d, n, e)
		}
	}
	k, _ = Close(k, 3)
	k.Procs[0].Fds[2] = -1
	k.Descs[3].Refs, k.Pipes[0].Readers = 0, 0
	if _, _, e := Write(k, 4, []byte("x")); e != api.ErrPipe {
		t.Error(e)
	}
}

// P17.6
func TestResultsAreValid(t *testing.T) {
	k := boot(t)
	for i := range 400 {
		h := i * 7 % 16
		switch i % 7 {
		case 0:
			k, _, _, _ = Pipe(k)
		case 1:
			k, _ = Close(k, 3+h%13)
		case 2:
			k, _, _ = Dup(k, h)
		case 3:
			k, _, _ = Put(k, api.Desc{Kind: api.DescFile, Node: 1, Flags: i % 64})
		case 4:
			k, _, _ = Write(k, h, bytes.Repeat([]byte{1}, i))
		case 5:
			k, _, _ = Read(k, h, i)
		case 6:
			k, _ = Close(k, h)
		}
		mustBeValid(t, k)
	}
}
