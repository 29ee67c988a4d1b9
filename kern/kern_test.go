package kern

import (
	"math"
	"reflect"
	"strings"
	"testing"

	"turnkey/api"
	"turnkey/clone"
	"turnkey/desc"
	"turnkey/node"
)

// boot returns a kernel with /d (1, not to be read), /f (2), /l (3, to f), /r (4, to be read alone), /s (5, not to be walked), /w (6, to be written alone).
func boot(t *testing.T) api.Kern {
	t.Helper()
	k, e := desc.Boot(api.Fs{Nodes: []api.Node{
		{Kind: 2, Mode: 7, Links: 1, Names: []api.Name{{Name: "d", Node: 1}, {Name: "f", Node: 2}, {Name: "l", Node: 3}, {Name: "r", Node: 4}, {Name: "s", Node: 5}, {Name: "w", Node: 6}}},
		{Kind: 2, Mode: 3, Links: 1}, {Kind: 1, Mode: 6, Links: 1, Data: []byte("hello")}, {Kind: 3, Links: 1, Mode: 7, To: "some/f"}, {Kind: 1, Mode: 4, Links: 1}, {Kind: 2, Mode: 6, Links: 1}, {Kind: 1, Mode: 2, Links: 1, Data: []byte("xy")},
	}}, nil)
	if e != api.OK {
		t.Fatal(e)
	}
	return k
}

func invalid(t *testing.T) api.Kern {
	k := boot(t)
	k.Pids = -1
	return k
}

// full returns a kernel without a free handle.
func full(t *testing.T) api.Kern {
	k := boot(t)
	for range 13 {
		k, _, _ = desc.Dup(k, 0)
	}
	return k
}

const (
	r    = api.FlagRead
	w    = api.FlagWrite
	c    = api.FlagCreate
	tr   = api.FlagTrunc
	app  = api.FlagAppend
	excl = api.FlagExcl
)

// P20.1
func TestOpenNode(t *testing.T) {
	k := boot(t)
	for _, x := range []struct {
		node, flags int
		want        api.Errno
	}{
		{2, r, api.OK}, {2, r | w, api.OK}, {2, 63, api.OK}, {0, r, api.OK}, {5, r, api.OK}, {4, r, api.OK}, {6, w, api.OK}, {2, r | tr, api.OK},
		{3, 0, api.ErrInval}, {2, c | tr | app | excl, api.ErrInval}, {2, 64 | r, api.ErrInval}, {2, -1, api.ErrInval}, {2, math.MinInt, api.ErrInval}, {2, math.MaxInt, api.ErrInval},
		{3, r, api.ErrLoop}, {3, w, api.ErrLoop}, {1, w, api.ErrIsDir}, {1, r | w, api.ErrIsDir}, {1, r, api.ErrAccess}, {4, w, api.ErrAccess}, {4, r | w, api.ErrAccess}, {6, r, api.ErrAccess}, {6, r | w, api.ErrAccess},
		{-1, r, api.ErrArg}, {7, r, api.ErrArg}, {7, 0, api.ErrArg},
	} {
		got, h, e := OpenNode(k, x.node, x.flags)
		if e != x.want || e != api.OK && (h != 0 || !reflect.DeepEqual(got, k)) {
			t.Errorf("OpenNode(%d, %d) = %d, %d; want %d", x.node, x.flags, h, e, x.want)
		}
		if e != api.OK {
			continue
		}
		kind := map[int]int{api.NodeFile: api.DescFile, api.NodeDir: api.DescDir}[k.Fs.Nodes[x.node].Kind]
		if d := got.Descs[got.Table[h]]; h != 3 || !desc.Check(got) || d != (api.Desc{Kind: kind, Node: x.node, Flags: x.flags, Refs: 1}) {
			t.Errorf("OpenNode(%d, %d): %+v", x.node, x.flags, d)
		}
		if empty := x.flags&(tr|w) == tr|w; x.node == 2 && (len(got.Fs.Nodes[2].Data) == 0) != empty {
			t.Errorf("OpenNode(%d, %d): %q", x.node, x.flags, got.Fs.Nodes[2].Data)
		}
	}
	if got, h, e := OpenNode(full(t), 2, w|tr); e != api.ErrMany || h != 0 || string(got.Fs.Nodes[2].Data) != "hello" {
		t.Error(h, e)
	}
	if _, _, e := OpenNode(full(t), 4, w); e != api.ErrAccess {
		t.Error(e)
	}
}

// P20.2
func TestOpen(t *testing.T) {
	k := boot(t)
	for _, x := range []struct {
		dir         int
		name        string
		flags, mode int
		want        api.Errno
	}{
		{0, "f", r, 0, api.OK}, {0, "f", r | c, 99, api.OK}, {0, "f", r | excl, 0, api.OK}, {0, "d", r, 0, api.ErrAccess}, {0, "f", r | c | excl, 0, api.ErrExist}, {0, "f", c | excl | 64, 0, api.ErrExist}, {0, "l", c | excl, 0, api.ErrExist}, {0, "l", r, 0, api.ErrLoop}, {0, "r", w | c, 0, api.ErrAccess}, {0, "f", -1, 0, api.ErrInval}, {0, "f", 0, 0, api.ErrInval},
		{0, "n", w, 6, api.ErrNoEnt}, {0, "n", -1, 6, api.ErrNoEnt}, {0, "n", math.MinInt + 4, 6, api.ErrNoEnt}, {0, "n", 0, 6, api.ErrNoEnt}, {2, "n", w | c, 6, api.ErrNotDir}, {3, "n", w | c, 6, api.ErrNotDir}, {5, "n", w | c, 6, api.ErrAccess},
		{0, "n", c, 6, api.ErrInval}, {0, "n", w | c | 64, 6, api.ErrInval}, {0, "n", w | c, 8, api.ErrInval}, {0, "n", w | c, -1, api.ErrInval}, {0, "..", c, 8, api.ErrInval}, {0, "..", w | c, 6, api.ErrInval}, {0, strings.Repeat("x", 33), w | c, 6, api.ErrNameLong}, {0, "", w | c, 6, api.ErrInval},
		{-1, "f", r, 0, api.ErrArg}, {7, "f", r, 0, api.ErrArg},
	} {
		got, h, e := Open(k, x.dir, x.name, x.flags, x.mode)
		if e != x.want || e == api.OK && (h != 3 || !desc.Check(got)) || e != api.OK && (h != 0 || !reflect.DeepEqual(got, k)) {
			t.Errorf("Open(%d, %q, %d, %d) = %d, %d; want %d", x.dir, x.name, x.flags, x.mode, h, e, x.want)
		}
	}
}

// P20.2
func TestOpenCreates(t *testing.T) {
	k := boot(t)
	for _, mode := range []int{0, 4, 7} {
		for _, flags := range []int{w | c, r | c, r | w | c | excl | tr | app} {
			got, h, e := Open(k, 1, "n", flags, mode)
			want := api.Node{Kind: api.NodeFile, Mode: mode, Links: 1}
			if e != api.OK || h != 3 || !desc.Check(got) || !reflect.DeepEqual(got.Fs.Nodes[7], want) || got.Descs[got.Table[h]] != (api.Desc{Kind: api.DescFile, Node: 7, Flags: flags, Refs: 1}) {
				t.Errorf("%d, %d: %d, %d", flags, mode, h, e)
			}
		}
	}
	many := full(t)
	if got, h, e := Open(many, 0, "n", w|c, 6); e != api.ErrMany || h != 0 || !reflect.DeepEqual(got, many) {
		t.Error(h, e)
	}
	for range 249 {
		k.Fs.Nodes = append(k.Fs.Nodes, api.Node{Kind: api.NodeFile})
	}
	if _, _, e := Open(k, 0, "n", w|c, 6); e != api.ErrFull {
		t.Error(e)
	}
}

// P20.3
func TestStatAndReadlink(t *testing.T) {
	k := boot(t)
	for n, want := range [][3]int{{2, 6, 7}, {2, 0, 3}, {1, 5, 6}, {3, 6, 7}, {1, 0, 4}} {
		if kind, size, mode, e := Stat(k, n); e != api.OK || [3]int{kind, size, mode} != want {
			t.Error(n, kind, size, mode, e)
		}
	}
	for _, n := range []int{-1, 7} {
		kind, size, mode, e := Stat(k, n)
		to, e2 := Readlink(k, n)
		if e != api.ErrArg || e2 != api.ErrArg || kind != 0 || size != 0 || mode != 0 || to != "" {
			t.Error(n, e, e2)
		}
	}
	if to, e := Readlink(k, 3); to != "some/f" || e != api.OK {
		t.Error(to, e)
	}
	for _, n := range []int{0, 2} {
		if to, e := Readlink(k, n); to != "" || e != api.ErrInval {
			t.Error(n, to, e)
		}
	}
}

// P20.3
func TestChanges(t *testing.T) {
	k := boot(t)
	got, e := Make(k, 1, "n", 5)
	if e != api.OK || !desc.Check(got) || !reflect.DeepEqual(got.Fs.Nodes[7], api.Node{Kind: 2, Mode: 5, Links: 1}) {
		t.Error(e)
	}
	got, e = Remove(k, 0, "f")
	if _, found := node.Where(got.Fs, 2); e != api.OK || found || !desc.Check(got) {
		t.Error(e)
	}
	got, e = Move(k, 0, "f", 1, "g")
	if where, _ := node.Where(got.Fs, 2); e != api.OK || where != "/d/g" || !desc.Check(got) {
		t.Error(e)
	}
	open, _, _ := OpenNode(k, 2, r)
	if got, e := Remove(open, 0, "f"); e != api.OK || !desc.Check(got) {
		t.Error("an open file may lose its name", e)
	}
	for i, x := range []struct {
		call func() (api.Kern, api.Errno)
		want api.Errno
	}{
		{func() (api.Kern, api.Errno) { return Make(k, 2, "..", 8) }, api.ErrInval}, {func() (api.Kern, api.Errno) { return Make(k, 2, "x", -1) }, api.ErrInval}, {func() (api.Kern, api.Errno) { return Make(k, 2, "x", 7) }, api.ErrNotDir}, {func() (api.Kern, api.Errno) { return Make(k, 0, "f", 7) }, api.ErrExist}, {func() (api.Kern, api.Errno) { return Make(k, 7, "x", 9) }, api.ErrArg}, {func() (api.Kern, api.Errno) { return Make(k, -1, "x", 7) }, api.ErrArg},
		{func() (api.Kern, api.Errno) { return Remove(k, 0, "n") }, api.ErrNoEnt}, {func() (api.Kern, api.Errno) { return Remove(k, 2, "n") }, api.ErrNotDir}, {func() (api.Kern, api.Errno) { return Remove(k, 7, "n") }, api.ErrArg}, {func() (api.Kern, api.Errno) { return Remove(k, 5, "n") }, api.ErrAccess},
		{func() (api.Kern, api.Errno) { return Move(k, 0, "d", 1, "x") }, api.ErrInval}, {func() (api.Kern, api.Errno) { return Move(k, 0, "d", 7, "x") }, api.ErrArg}, {func() (api.Kern, api.Errno) { return Move(k, -1, "d", 0, "x") }, api.ErrArg}, {func() (api.Kern, api.Errno) { return Move(k, 0, "f", 0, "d") }, api.ErrIsDir},
	} {
		if got, e := x.call(); e != x.want || !reflect.DeepEqual(got, k) {
			t.Errorf("%d: %d; want %d", i, e, x.want)
		}
	}
}

// All of P20: an invalid kernel comes back as it is.
func TestInvalidKernel(t *testing.T) {
	k := invalid(t)
	k1, h1, e1 := Open(k, 0, "f", r, 0)
	k2, h2, e2 := OpenNode(k, 2, r)
	a, b, m, e3 := Stat(k, 2)
	to, e4 := Readlink(k, 3)
	k5, e5 := Make(k, 0, "n", 7)
	k6, e6 := Remove(k, 0, "f")
	k7, e7 := Move(k, 0, "f", 0, "g")
	for i, e := range []api.Errno{e1, e2, e3, e4, e5, e6, e7} {
		if e != api.ErrArg {
			t.Error(i, e)
		}
	}
	for i, got := range []api.Kern{k1, k2, k5, k6, k7} {
		if !reflect.DeepEqual(got, clone.Kern(k)) {
			t.Error(i)
		}
	}
	if h1 != 0 || h2 != 0 || a+b+m != 0 || to != "" {
		t.Error("results")
	}
}

// P20.4
func TestNothingIsOpenedAgainstItsMode(t *testing.T) {
	k := boot(t)
	for n := range k.Fs.Nodes {
		for flags := range 64 {
			got, h, e := OpenNode(k, n, flags)
			if e != api.OK {
				continue
			}
			mode := k.Fs.Nodes[n].Mode
			if !desc.Check(got) || flags&r != 0 && mode&4 == 0 || flags&w != 0 && mode&2 == 0 || flags&3 == 0 {
				t.Errorf("node %d with flags %d is opened as %d", n, flags, h)
			}
		}
	}
}
