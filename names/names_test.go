package names

import (
	"bytes"
	"fmt"
	"math"
	"reflect"
	"slices"
	"strings"
	"testing"

	"turnkey/api"
	"turnkey/clone"
	"turnkey/node"
)

// sample has /a (1, also /d/x), /d (2), /d/e (3, not to be written), /l (4), /m (5, empty directory), and the lost directory 6.
func sample() api.Fs {
	return api.Fs{Nodes: []api.Node{
		{Kind: 2, Mode: 7, Links: 1, Names: []api.Name{{Name: "a", Node: 1}, {Name: "d", Node: 2}, {Name: "l", Node: 4}, {Name: "m", Node: 5}}},
		{Kind: 1, Mode: 6, Links: 2, Data: []byte("hello")},
		{Kind: 2, Mode: 3, Links: 1, Names: []api.Name{{Name: "e", Node: 3}, {Name: "x", Node: 1}}},
		{Kind: 2, Mode: 5, Links: 1},
		{Kind: 3, Links: 1, To: "a"},
		{Kind: 2, Mode: 7, Links: 1},
		{Kind: 2, Mode: 7},
	}}
}

var file = api.Node{Kind: api.NodeFile, Mode: 6}

// invalidFs is not valid: its file has no name.
func invalidFs() api.Fs {
	f := sample()
	f.Nodes[1].Links = 9
	return f
}

func unchanged(t *testing.T, what string, before, after api.Fs) {
	t.Helper()
	if !reflect.DeepEqual(before, after) {
		t.Errorf("%s: %+v became %+v", what, before, after)
	}
}

// P15.1
func TestCreate(t *testing.T) {
	f := sample()
	for i, n := range []api.Node{file, {Kind: 1, Data: make([]byte, 4096), Links: 77}, {Kind: 2, Mode: 7}, {Kind: 3, To: "x", Links: -1}} {
		name := fmt.Sprint("c", i)
		got, number, e := Create(f, 0, name, n)
		if e != api.OK || number != len(f.Nodes) || !node.Check(got) {
			t.Fatal(n, number, e)
		}
		n.Links = 1
		if !reflect.DeepEqual(got.Nodes[number], n) {
			t.Error(got.Nodes[number])
		}
		if at, _ := node.Lookup(got, 0, name); at != number {
			t.Error(at)
		}
		unchanged(t, "the argument", sample(), clone.Fs(sample()))
		f = got
	}
}

// P15.1
func TestCreateErrors(t *testing.T) {
	f := sample()
	full := sample()
	full.Nodes = append(full.Nodes, slices.Repeat([]api.Node{{Kind: 1}}, 249)...)
	long := strings.Repeat("x", 33)
	for _, c := range []struct {
		f    api.Fs
		dir  int
		name string
		n    api.Node
		want api.Errno
	}{
		{invalidFs(), 0, "n", file, api.ErrArg}, {f, 7, "n", file, api.ErrArg}, {f, -1, "n", file, api.ErrArg},
		{f, 0, "n", api.Node{}, api.ErrArg}, {f, 0, "n", api.Node{Kind: 1, Mode: 8}, api.ErrArg}, {f, 0, "n", api.Node{Kind: 1, Mode: -1}, api.ErrArg}, {f, 0, "n", api.Node{Kind: 1, Data: make([]byte, 4097)}, api.ErrArg}, {f, 0, "n", api.Node{Kind: 1, To: "x"}, api.ErrArg},
		{f, 0, "n", api.Node{Kind: 2, Names: []api.Name{{Name: "q", Node: 1}}}, api.ErrArg}, {f, 0, "n", api.Node{Kind: 3}, api.ErrArg}, {f, 0, "n", api.Node{Kind: 3, To: "a\x00"}, api.ErrArg}, {f, 0, "n", api.Node{Kind: 3, To: strings.Repeat("x", 257)}, api.ErrArg}, {f, 0, "..", api.Node{Kind: 4}, api.ErrArg},
		{f, 1, "..", file, api.ErrInval}, {f, 1, "", file, api.ErrInval}, {f, 1, long, file, api.ErrNameLong}, {f, 1, "n", file, api.ErrNotDir}, {f, 4, "n", file, api.ErrNotDir}, {f, 6, "n", file, api.ErrNoEnt}, {f, 3, "n", file, api.ErrAccess},
		{f, 0, "a", file, api.ErrExist}, {full, 0, "a", file, api.ErrExist}, {full, 0, "n", file, api.ErrFull}, {full, 3, "n", file, api.ErrAccess},
	} {
		got, number, e := Create(c.f, c.dir, c.name, c.n)
		if e != c.want || number != 0 {
			t.Errorf("Create(%d, %q, %+v) = %d, %d; want %d", c.dir, c.name, c.n, number, e, c.want)
		}
		unchanged(t, c.name, c.f, got)
	}
	f.Nodes[3].Mode = 6
	if _, _, e := Create(f, 3, "n", file); e != api.ErrAccess {
		t.Error("a directory needs 1 to be written", e)
	}
}

// P15.2
func TestLink(t *testing.T) {
	f := sample()
	got, e := Link(f, 1, 0, "b")
	if at, _ := node.Lookup(got, 0, "b"); e != api.OK || at != 1 || got.Nodes[1].Links != 3 || !node.Check(got) {
		t.Error(at, e)
	}
	if got, e := Link(f, 4, 2, "f"); e != api.OK || got.Nodes[4].Links != 2 || !node.Check(got) {
		t.Error(e)
	}
	for _, c := range []struct {
		f         api.Fs
		node, dir int
		name      string
		want      api.Errno
	}{
		{invalidFs(), 1, 0, "b", api.ErrArg}, {f, 7, 0, "b", api.ErrArg}, {f, 1, -1, "b", api.ErrArg}, {f, 2, 1, "..", api.ErrIsDir}, {f, 6, 0, "b", api.ErrIsDir}, {f, 1, 1, ".", api.ErrInval}, {f, 1, 1, "b", api.ErrNotDir}, {f, 1, 6, "b", api.ErrNoEnt}, {f, 1, 3, "b", api.ErrAccess}, {f, 1, 0, "d", api.ErrExist}, {f, 1, 0, "a", api.ErrExist},
	} {
		got, e := Link(c.f, c.node, c.dir, c.name)
		if e != c.want {
			t.Errorf("Link(%d, %d, %q) = %d; want %d", c.node, c.dir, c.name, e, c.want)
		}
		unchanged(t, c.name, c.f, got)
	}
}

// P15.2
func TestUnlink(t *testing.T) {
	f := sample()
	for _, c := range []struct {
		dir   int
		name  string
		node  int
		links int
	}{{0, "a", 1, 1}, {2, "x", 1, 1}, {0, "m", 5, 0}, {0, "l", 4, 0}, {2, "e", 3, 0}} {
		got, e := Unlink(f, c.dir, c.name)
		if e != api.OK || got.Nodes[c.node].Links != c.links || !node.Check(got) || len(got.Nodes[c.dir].Names) != len(f.Nodes[c.dir].Names)-1 {
			t.Errorf("Unlink(%d, %q) = %d", c.dir, c.name, e)
		}
	}
	for _, c := range []struct {
		f    api.Fs
		dir  int
		name string
		want api.Errno
	}{
		{invalidFs(), 0, "a", api.ErrArg}, {f, 7, "a", api.ErrArg}, {f, -1, "a", api.ErrArg}, {f, 1, "a", api.ErrNotDir}, {f, 6, "a", api.ErrNoEnt}, {f, 3, "a", api.ErrAccess}, {f, 0, "b", api.ErrNoEnt}, {f, 0, "", api.ErrNoEnt}, {f, 0, "..", api.ErrNoEnt}, {f, 0, "d", api.ErrNotEmpty},
	} {
		got, e := Unlink(c.f, c.dir, c.name)
		if e != c.want {
			t.Errorf("Unlink(%d, %q) = %d; want %d", c.dir, c.name, e, c.want)
		}
		unchanged(t, c.name, c.f, got)
	}
}

// P15.3
func TestRename(t *testing.T) {
	f := sample()
	for _, c := range []struct {
		from int
		old  string
		to   int
		name string
		want []string
	}{
		{0, "a", 0, "b", []string{"/", "/b", "/d", "/d/e", "/d/x", "/l", "/m"}},
		{0, "a", 5, "a", []string{"/", "/d", "/d/e", "/d/x", "/l", "/m", "/m/a"}},
		{0, "d", 5, "q", []string{"/", "/a", "/l", "/m", "/m/q", "/m/q/e", "/m/q/x"}},
		{0, "l", 0, "a", []string{"/", "/a", "/d", "/d/e", "/d/x", "/m"}},
		{0, "d", 0, "m", []string{"/", "/a", "/l", "/m", "/m/e", "/m/x"}},
		{2, "e", 0, "m", []string{"/", "/a", "/d", "/d/x", "/l", "/m"}},
		{0, "a", 2, "x", node.All(f)}, {0, "d", 0, "d", node.All(f)}, {0, "a", 0, "a", node.All(f)},
	} {
		got, e := Rename(f, c.from, c.old, c.to, c.name)
		if e != api.OK || !node.Check(got) || !slices.Equal(node.All(got), c.want) {
			t.Errorf("Rename(%d, %q, %d, %q): %q, %d", c.from, c.old, c.to, c.name, node.All(got), e)
		}
		if len(got.Nodes) != len(f.Nodes) {
			t.Error("a node is gone")
		}
	}
	got, _ := Rename(f, 0, "l", 0, "a")
	if at, _ := node.Lookup(got, 0, "a"); at != 4 || got.Nodes[1].Links != 1 {
		t.Error(at)
	}
}

// P15.3
func TestRenameErrors(t *testing.T) {
	f := sample()
	f.Nodes[3].Mode = 7
	for _, c := range []struct {
		f    api.Fs
		from int
		old  string
		to   int
		name string
		want api.Errno
	}{
		{invalidFs(), 0, "a", 0, "b", api.ErrArg}, {f, 7, "a", 0, "b", api.ErrArg}, {f, 0, "a", -1, "b", api.ErrArg},
		{f, 1, "a", 6, "..", api.ErrInval}, {f, 1, "a", 6, strings.Repeat("x", 33), api.ErrNameLong}, {f, 1, "a", 6, "b", api.ErrNotDir}, {f, 6, "a", 1, "b", api.ErrNoEnt}, {f, 0, "no", 1, "b", api.ErrNotDir}, {f, 0, "no", 6, "b", api.ErrNoEnt}, {sample(), 3, "a", 0, "b", api.ErrAccess}, {sample(), 0, "a", 3, "b", api.ErrAccess},
		{f, 0, "no", 0, "b", api.ErrNoEnt}, {f, 0, "d", 2, "x", api.ErrInval}, {f, 0, "d", 3, "q", api.ErrInval}, {f, 0, "d", 2, "e", api.ErrInval},
		{f, 0, "a", 0, "d", api.ErrIsDir}, {f, 0, "a", 0, "m", api.ErrIsDir}, {f, 0, "l", 0, "d", api.ErrIsDir}, {f, 0, "d", 0, "a", api.ErrNotDir}, {f, 0, "m", 0, "l", api.ErrNotDir}, {f, 0, "m", 0, "d", api.ErrNotEmpty},
	} {
		got, e := Rename(c.f, c.from, c.old, c.to, c.name)
		if e != c.want {
			t.Errorf("Rename(%d, %q, %d, %q) = %d; want %d", c.from, c.old, c.to, c.name, e, c.want)
		}
		unchanged(t, c.old, c.f, got)
	}
}

// P15.4
func TestWrite(t *testing.T) {
	f := sample()
	for _, c := range []struct {
		off  int
		b    string
		want string
		n    int
	}{
		{0, "J", "Jello", 1}, {5, "!", "hello!", 1}, {3, "pful", "helpful", 4}, {7, "x", "hello\x00\x00x", 1}, {4096, "", "hello", 0}, {9, "", "hello", 0},
		{4095, "xyz", "hello" + strings.Repeat("\x00", 4090) + "x", 1}, {0, strings.Repeat("y", 5000), strings.Repeat("y", 4096), 4096},
	} {
		got, n, e := Write(f, 1, c.off, []byte(c.b))
		if e != api.OK || n != c.n || string(got.Nodes[1].Data) != c.want || !node.Check(got) {
			t.Errorf("Write at %d: %.20q, %d, %d", c.off, got.Nodes[1].Data, n, e)
		}
	}
	for _, c := range []struct {
		f         api.Fs
		node, off int
		b         string
		want      api.Errno
	}{
		{invalidFs(), 1, 0, "x", api.ErrArg}, {f, 7, 0, "x", api.ErrArg}, {f, -1, 0, "x", api.ErrArg}, {f, 2, -1, "x", api.ErrIsDir}, {f, 4, -1, "x", api.ErrInval}, {f, 1, -1, "", api.ErrArg}, {f, 1, 4097, "", api.ErrArg}, {f, 1, math.MaxInt, "x", api.ErrArg}, {f, 1, 4096, "x", api.ErrFull},
	} {
		got, n, e := Write(c.f, c.node, c.off, []byte(c.b))
		if e != c.want || n != 0 {
			t.Errorf("Write(%d, %d, %q) = %d, %d", c.node, c.off, c.b, n, e)
		}
		unchanged(t, "write", c.f, got)
	}
	b := []byte("zz")
	got, _, _ := Write(f, 1, 0, b)
	b[0] = 'q'
	if got.Nodes[1].Data[0] != 'z' || !bytes.Equal(f.Nodes[1].Data, []byte("hello")) {
		t.Error("the data are shared")
	}
}

// P15.4
func TestReadAndTrunc(t *testing.T) {
	f := sample()
	for _, c := range []struct {
		off, n int
		want   string
	}{{0, 2, "he"}, {1, 100, "ello"}, {4, math.MaxInt, "o"}, {5, 1, ""}, {math.MaxInt, math.MaxInt, ""}, {0, 0, ""}} {
		if got, e := Read(f, 1, c.off, c.n); e != api.OK || string(got) != c.want {
			t.Errorf("Read(%d, %d) = %q, %d", c.off, c.n, got, e)
		}
	}
	for _, c := range []struct {
		f            api.Fs
		node, off, n int
		want         api.Errno
	}{{invalidFs(), 1, 0, 1, api.ErrArg}, {f, 7, 0, 1, api.ErrArg}, {f, -1, 0, 1, api.ErrArg}, {f, 0, -1, 1, api.ErrIsDir}, {f, 4, -1, 1, api.ErrInval}, {f, 1, -1, 1, api.ErrArg}, {f, 1, 0, -1, api.ErrArg}} {
		if got, e := Read(c.f, c.node, c.off, c.n); e != c.want || len(got) != 0 {
			t.Errorf("Read(%d, %d, %d) = %q, %d", c.node, c.off, c.n, got, e)
		}
	}
	for n, want := range map[int]api.Errno{0: api.ErrIsDir, 4: api.ErrInval, 7: api.ErrArg, -1: api.ErrArg} {
		got, e := Trunc(f, n)
		if e != want {
			t.Errorf("Trunc(%d) = %d", n, e)
		}
		unchanged(t, "trunc", f, got)
	}
	got, e := Trunc(f, 1)
	if e != api.OK || len(got.Nodes[1].Data) != 0 || len(f.Nodes[1].Data) != 5 {
		t.Error(e)
	}
}

// P15.5
func TestOtherNodesStay(t *testing.T) {
	f := sample()
	got, _ := Rename(f, 0, "a", 5, "z")
	for i, n := range f.Nodes {
		if i != 0 && i != 5 && !reflect.DeepEqual(got.Nodes[i], n) {
			t.Errorf("node %d: %+v", i, got.Nodes[i])
		}
	}
}
