package node

import (
	"fmt"
	"reflect"
	"slices"
	"strings"
	"testing"

	"turnkey/api"
	"turnkey/clone"
)

// sample has /a (a file, also /d/x), /d with x and a directory e, which contains y, /l (a link), a file and a directory without a name.
func sample() api.Fs {
	return api.Fs{Nodes: []api.Node{
		{Kind: api.NodeDir, Mode: 7, Links: 1, Names: []api.Name{{Name: "a", Node: 1}, {Name: "d", Node: 2}, {Name: "l", Node: 3}}},
		{Kind: api.NodeFile, Mode: 6, Links: 2, Data: []byte("hi")},
		{Kind: api.NodeDir, Mode: 5, Links: 1, Names: []api.Name{{Name: "e", Node: 4}, {Name: "x", Node: 1}}},
		{Kind: api.NodeLink, Links: 1, To: "d"},
		{Kind: api.NodeDir, Mode: 0, Links: 1, Names: []api.Name{{Name: "y", Node: 5}}},
		{Kind: api.NodeFile, Links: 1},
		{Kind: api.NodeFile, Mode: 7},
		{Kind: api.NodeDir, Mode: 7},
	}}
}

func broken() map[string]api.Fs {
	out := map[string]api.Fs{"empty": {}}
	for name, spoil := range map[string]func(*api.Fs){
		"kind 0":               func(f *api.Fs) { f.Nodes[6].Kind = 0 },
		"kind 4":               func(f *api.Fs) { f.Nodes[6].Kind = 4 },
		"mode":                 func(f *api.Fs) { f.Nodes[6].Mode = 8 },
		"negative mode":        func(f *api.Fs) { f.Nodes[6].Mode = -1 },
		"data too long":        func(f *api.Fs) { f.Nodes[1].Data = make([]byte, 4097) },
		"file with names":      func(f *api.Fs) { f.Nodes[6].Names = []api.Name{{Name: "q", Node: 1}}; f.Nodes[1].Links++ },
		"file with to":         func(f *api.Fs) { f.Nodes[6].To = "x" },
		"dir with data":        func(f *api.Fs) { f.Nodes[2].Data = []byte{1} },
		"dir with to":          func(f *api.Fs) { f.Nodes[2].To = "x" },
		"link without to":      func(f *api.Fs) { f.Nodes[3].To = "" },
		"link too long":        func(f *api.Fs) { f.Nodes[3].To = strings.Repeat("x", 257) },
		"link with zero":       func(f *api.Fs) { f.Nodes[3].To = "a\x00" },
		"link with data":       func(f *api.Fs) { f.Nodes[3].Data = []byte{1} },
		"link with names":      func(f *api.Fs) { f.Nodes[3].Names = []api.Name{{Name: "q", Node: 1}}; f.Nodes[1].Links++ },
		"bad name":             func(f *api.Fs) { f.Nodes[0].Names[0].Name = ".." },
		"long name":            func(f *api.Fs) { f.Nodes[0].Names[2].Name = strings.Repeat("x", 33) },
		"order":                func(f *api.Fs) { f.Nodes[0].Names[0].Name = "e" },
		"twice":                func(f *api.Fs) { f.Nodes[0].Names[0].Name = "d" },
		"no such node":         func(f *api.Fs) { f.Nodes[0].Names[0].Node = 8 },
		"negative node":        func(f *api.Fs) { f.Nodes[0].Names[0].Node = -1 },
		"links too many":       func(f *api.Fs) { f.Nodes[1].Links = 3 },
		"links too few":        func(f *api.Fs) { f.Nodes[1].Links = 1 },
		"negative links":       func(f *api.Fs) { f.Nodes[6].Links = -1 },
		"root links":           func(f *api.Fs) { f.Nodes[0].Links = 2 },
		"root without links":   func(f *api.Fs) { f.Nodes[0].Links = 0 },
		"root is a file":       func(f *api.Fs) { f.Nodes[0] = api.Node{Kind: api.NodeFile, Links: 1} },
		"name of the root":     func(f *api.Fs) { f.Nodes[4].Names[0].Node = 0; f.Nodes[5].Links = 0 },
		"two names of a dir":   func(f *api.Fs) { f.Nodes[4].Names[0].Node = 4; f.Nodes[5].Links = 0; f.Nodes[4].Links = 2 },
		"lost dir with names":  func(f *api.Fs) { f.Nodes[7].Names = []api.Name{{Name: "q", Node: 6}}; f.Nodes[6].Links = 1 },
		"ring":                 func(f *api.Fs) { f.Nodes[7].Names = []api.Name{{Name: "q", Node: 7}}; f.Nodes[7].Links = 1 },
		"too many":             func(f *api.Fs) { f.Nodes = append(f.Nodes, make([]api.Node, 249)...) },
		"too many right nodes": func(f *api.Fs) { f.Nodes = append(f.Nodes, slices.Repeat([]api.Node{{Kind: 1}}, 249)...) },
	} {
		f := sample()
		spoil(&f)
		out[name] = f
	}
	return out
}

// P14.1
func TestNewAndCheck(t *testing.T) {
	want := api.Fs{Nodes: []api.Node{{Kind: api.NodeDir, Mode: 7, Links: 1}}}
	if !reflect.DeepEqual(New(), want) || !Check(New()) || !Check(sample()) {
		t.Error(New())
	}
	full := sample()
	full.Nodes = append(full.Nodes, slices.Repeat([]api.Node{{Kind: api.NodeFile, Data: make([]byte, 4096)}}, 248)...)
	if len(full.Nodes) != 256 || !Check(full) {
		t.Error("256 nodes are valid")
	}
	for name, f := range broken() {
		if Check(f) {
			t.Error(name)
		}
	}
}

// P14.2
func TestLookup(t *testing.T) {
	f := sample()
	for _, c := range []struct {
		dir  int
		name string
		want int
		err  api.Errno
	}{
		{0, "a", 1, api.OK}, {0, "l", 3, api.OK}, {2, "x", 1, api.OK}, {0, "x", 0, api.ErrNoEnt}, {0, "", 0, api.ErrNoEnt}, {0, "..", 0, api.ErrNoEnt}, {7, "a", 0, api.ErrNoEnt},
		{1, "a", 0, api.ErrNotDir}, {3, "x", 0, api.ErrNotDir}, {4, "y", 0, api.ErrAccess}, {4, "none", 0, api.ErrAccess}, {-1, "a", 0, api.ErrArg}, {8, "a", 0, api.ErrArg},
	} {
		if got, e := Lookup(f, c.dir, c.name); got != c.want || e != c.err {
			t.Errorf("Lookup(%d, %q) = %d, %d", c.dir, c.name, got, e)
		}
	}
	for name, f := range broken() {
		n, e := Lookup(f, 0, "a")
		l, e2 := List(f, 0)
		if n != 0 || len(l) != 0 || e != api.ErrArg || e2 != api.ErrArg {
			t.Error(name, n, l, e, e2)
		}
	}
}

// P14.2
func TestList(t *testing.T) {
	f := sample()
	f.Nodes[7].Mode = 3
	for _, c := range []struct {
		dir  int
		want []string
		err  api.Errno
	}{
		{0, []string{"a", "d", "l"}, api.OK}, {2, []string{"e", "x"}, api.OK}, {4, nil, api.ErrAccess}, {7, nil, api.ErrAccess}, {1, nil, api.ErrNotDir}, {3, nil, api.ErrNotDir}, {8, nil, api.ErrArg}, {-1, nil, api.ErrArg},
	} {
		if got, e := List(f, c.dir); !slices.Equal(got, c.want) || e != c.err {
			t.Errorf("List(%d) = %q, %d", c.dir, got, e)
		}
	}
}

// P14.3
func TestParentAndWhere(t *testing.T) {
	f := sample()
	for node, want := range []struct {
		dir   int
		name  string
		path  string
		found bool
	}{
		{0, "", "/", false}, {0, "a", "/a", true}, {0, "d", "/d", true}, {0, "l", "/l", true}, {2, "e", "/d/e", true}, {4, "y", "/d/e/y", true}, {0, "", "", false}, {0, "", "", false},
	} {
		dir, name, found := Parent(f, node)
		if dir != want.dir || name != want.name || found != want.found {
			t.Errorf("Parent(%d) = %d, %q, %v", node, dir, name, found)
		}
		if path, ok := Where(f, node); path != want.path || ok != (want.path != "") {
			t.Errorf("Where(%d) = %q, %v", node, path, ok)
		}
	}
	for _, node := range []int{-1, 8, 1 << 40} {
		if dir, name, found := Parent(f, node); dir != 0 || name != "" || found {
			t.Error(node, dir, name, found)
		}
		if path, ok := Where(f, node); path != "" || ok {
			t.Error(node, path, ok)
		}
	}
	for name, f := range broken() {
		if _, _, found := Parent(f, 1); found {
			t.Error(name)
		}
		if _, ok := Where(f, 0); ok {
			t.Error(name)
		}
		if len(All(f)) != 0 {
			t.Error(name)
		}
	}
}

// P14.3: the contents of a directory come before the names after it, whatever the bytes of the paths are.
func TestWalkOrder(t *testing.T) {
	f := sample()
	if got := All(f); !slices.Equal(got, []string{"/", "/a", "/d", "/d/e", "/d/e/y", "/d/x", "/l"}) {
		t.Error(got)
	}
	f = api.Fs{Nodes: []api.Node{
		{Kind: 2, Links: 1, Names: []api.Name{{Name: "d", Node: 1}, {Name: "d!", Node: 2}}},
		{Kind: 2, Links: 1, Names: []api.Name{{Name: "z", Node: 2}}}, {Kind: 1, Links: 2},
	}}
	if got := All(f); !slices.Equal(got, []string{"/", "/d", "/d/z", "/d!"}) {
		t.Error(got)
	}
	if path, _ := Where(f, 2); path != "/d/z" {
		t.Error(path)
	}
	if got := All(New()); !slices.Equal(got, []string{"/"}) {
		t.Error(got)
	}
}

// P14.4
func TestWhereLeadsToTheNode(t *testing.T) {
	f := clone.Fs(sample())
	for i := range f.Nodes {
		f.Nodes[i].Mode = 7
	}
	for node := range f.Nodes {
		where, ok := Where(f, node)
		if !ok {
			continue
		}
		at := 0
		for _, name := range strings.FieldsFunc(where, func(r rune) bool { return r == '/' }) {
			var e api.Errno
			if at, e = Lookup(f, at, name); e != api.OK {
				t.Fatal(where, e)
			}
		}
		if at != node {
			t.Errorf("%s leads to %d, not %d", where, at, node)
		}
	}
}

// P14.1: a tree as deep as there can be.
func TestDeep(t *testing.T) {
	f := New()
	for i := 1; i < 256; i++ {
		f.Nodes[i-1].Names = []api.Name{{Name: fmt.Sprintf("%032d", i), Node: i}}
		f.Nodes = append(f.Nodes, api.Node{Kind: api.NodeDir, Mode: 7, Links: 1})
	}
	where, ok := Where(f, 255)
	if !Check(f) || !ok || len(where) != 255*33 || len(All(f)) != 256 {
		t.Error(len(where), ok)
	}
}
