package resolve

import (
	"fmt"
	"reflect"
	"strings"
	"testing"

	"turnkey/api"
	"turnkey/clone"
	"turnkey/node"
)

const (
	d = 1 + iota
	x
	l
	abs
	self
	dangling
	hidden
	lost
	e
	up
)

// sample has /d with x and e, /l to d, /abs to /d/x, /self to self, /dangling to d/none, /hidden (Mode 6), /d/up to ../l; node 8 is a lost directory.
func sample() api.Fs {
	return api.Fs{Nodes: []api.Node{
		{Kind: 2, Mode: 7, Links: 1, Names: []api.Name{{Name: "abs", Node: abs}, {Name: "d", Node: d}, {Name: "dangling", Node: dangling}, {Name: "hidden", Node: hidden}, {Name: "l", Node: l}, {Name: "self", Node: self}}},
		{Kind: 2, Mode: 7, Links: 1, Names: []api.Name{{Name: "e", Node: e}, {Name: "up", Node: up}, {Name: "x", Node: x}}},
		{Kind: 1, Mode: 6, Links: 1}, {Kind: 3, Links: 1, To: "d"}, {Kind: 3, Links: 1, To: "/d/x"}, {Kind: 3, Links: 1, To: "self"}, {Kind: 3, Links: 1, To: "d/none"}, {Kind: 2, Mode: 6, Links: 1}, {Kind: 2, Mode: 7}, {Kind: 2, Mode: 7, Links: 1}, {Kind: 3, Links: 1, To: "../l"},
	}}
}

// P21.1, P21.2
func TestResolve(t *testing.T) {
	f := sample()
	for _, c := range []struct {
		cwd    int
		path   string
		follow bool
		want   api.Found
		err    api.Errno
	}{
		{0, "/", false, api.Found{Dir: -1, Node: 0, Path: "/"}, api.OK}, {d, "/", true, api.Found{Dir: -1, Node: 0, Path: "/"}, api.OK}, {d, ".", true, api.Found{Dir: -1, Node: d, Path: "/d", Calls: 1}, api.OK},
		{0, "/d/x", false, api.Found{Dir: d, Name: "x", Node: x, Path: "/d/x", Calls: 2}, api.OK}, {d, "x", false, api.Found{Dir: d, Name: "x", Node: x, Path: "/d/x", Calls: 1}, api.OK}, {d, "//d//x//", false, api.Found{Dir: d, Name: "x", Node: x, Path: "/d/x", Calls: 2}, api.OK},
		{0, "/l/x", false, api.Found{Dir: d, Name: "x", Node: x, Path: "/d/x", Calls: 4}, api.OK}, {0, "/l", false, api.Found{Dir: 0, Name: "l", Node: l, Path: "/l", Calls: 1}, api.OK}, {0, "/l", true, api.Found{Dir: 0, Name: "d", Node: d, Path: "/d", Calls: 3}, api.OK}, {0, "/l/", false, api.Found{Dir: 0, Name: "l", Node: l, Path: "/l", Calls: 1}, api.OK}, {0, "/l/.", false, api.Found{Dir: -1, Node: d, Path: "/d", Calls: 4}, api.OK},
		{d, "../abs", true, api.Found{Dir: d, Name: "x", Node: x, Path: "/d/x", Calls: 5}, api.OK}, {0, "d/up", true, api.Found{Dir: 0, Name: "d", Node: d, Path: "/d", Calls: 7}, api.OK}, {0, "d/up/e/..", false, api.Found{Dir: -1, Node: d, Path: "/d", Calls: 9}, api.OK},
		{0, "/none", true, api.Found{Dir: 0, Name: "none", Node: -1, Path: "/none", Calls: 1}, api.OK}, {0, "/dangling", true, api.Found{Dir: d, Name: "none", Node: -1, Path: "/d/none", Calls: 4}, api.OK}, {0, "/none/x", true, api.Found{Calls: 1}, api.ErrNoEnt},
		{0, "..", false, api.Found{Dir: -1, Node: 0, Path: "/", Calls: 1}, api.OK}, {e, "..", false, api.Found{Dir: -1, Node: d, Path: "/d", Calls: 1}, api.OK}, {0, "d/..", false, api.Found{Dir: -1, Node: 0, Path: "/", Calls: 2}, api.OK}, {0, "d/e/../x", false, api.Found{Dir: d, Name: "x", Node: x, Path: "/d/x", Calls: 4}, api.OK},
		{0, "/d/x/y", false, api.Found{Calls: 2}, api.ErrNotDir}, {0, "/d/x/.", false, api.Found{Calls: 2}, api.ErrNotDir}, {0, "/abs/y", false, api.Found{Calls: 4}, api.ErrNotDir},
		{0, "/hidden", false, api.Found{Dir: 0, Name: "hidden", Node: hidden, Path: "/hidden", Calls: 1}, api.OK}, {0, "/hidden/x", false, api.Found{Calls: 2}, api.ErrAccess}, {hidden, ".", false, api.Found{Calls: 1}, api.ErrAccess}, {hidden, "..", false, api.Found{Calls: 1}, api.ErrAccess},
		{lost, "..", false, api.Found{Calls: 1}, api.ErrNoEnt}, {lost, ".", false, api.Found{Calls: 1}, api.ErrNoEnt}, {lost, "a", false, api.Found{Calls: 1}, api.ErrNoEnt}, {lost, "/d", false, api.Found{Dir: 0, Name: "d", Node: d, Path: "/d", Calls: 1}, api.OK},
		{0, "/self", true, api.Found{Calls: 17}, api.ErrLoop}, {0, "/self", false, api.Found{Dir: 0, Name: "self", Node: self, Path: "/self", Calls: 1}, api.OK}, {0, "/self/x", false, api.Found{Calls: 17}, api.ErrLoop},
		{0, "", true, api.Found{}, api.ErrNoEnt}, {0, "a\x00", true, api.Found{}, api.ErrInval}, {0, strings.Repeat("x", 33), true, api.Found{}, api.ErrNameLong}, {0, strings.Repeat("/a", 129), true, api.Found{}, api.ErrNameLong},
		{x, "/", true, api.Found{}, api.ErrArg}, {l, "/", true, api.Found{}, api.ErrArg}, {-1, "", true, api.Found{}, api.ErrArg}, {11, "/", true, api.Found{}, api.ErrArg},
	} {
		got, err := Resolve(f, c.cwd, c.path, c.follow)
		if err != c.err || got != c.want {
			t.Errorf("Resolve(%d, %q, %v) = %+v, %d; want %+v, %d", c.cwd, c.path, c.follow, got, err, c.want, c.err)
		}
	}
	bad := sample()
	bad.Nodes[x].Links = 3
	if got, err := Resolve(bad, 0, "/", true); err != api.ErrArg || got != (api.Found{}) {
		t.Error(got, err)
	}
	if !reflect.DeepEqual(f, sample()) {
		t.Error("resolving changed something")
	}
}

// deep returns a chain of count directories with names of 32 bytes.
func deep(count int) api.Fs {
	f := node.New()
	for i := range count {
		f.Nodes[i].Names = []api.Name{{Name: fmt.Sprintf("%032d", i), Node: i + 1}}
		f.Nodes = append(f.Nodes, api.Node{Kind: 2, Mode: 7, Links: 1})
	}
	return f
}

// P21.2
func TestLongPath(t *testing.T) {
	f := deep(9)
	if got, err := Resolve(f, 7, "abcdefghijklmnopqrstuvwx", false); err != api.OK || len(got.Path) != 256 || got.Node != -1 {
		t.Error(got, err)
	}
	if got, err := Resolve(f, 7, "abcdefghijklmnopqrstuvwxy", false); err != api.ErrNameLong || got != (api.Found{Calls: 1}) {
		t.Error(got, err)
	}
	if got, err := Resolve(f, 8, ".", false); err != api.ErrNameLong || got != (api.Found{Calls: 1}) {
		t.Error(got, err)
	}
	if got, err := Resolve(f, 8, "..", false); err != api.OK || len(got.Path) != 231 {
		t.Error(got, err)
	}
}

// P21.1, P21.3: eight links may be followed, and no way has more than Most parts.
func TestMost(t *testing.T) {
	if Most() != 1200 {
		t.Error(Most())
	}
	f := node.New()
	for i := range 10 {
		f.Nodes[0].Names = append(f.Nodes[0].Names, api.Name{Name: fmt.Sprint("l", i), Node: i + 1})
		f.Nodes = append(f.Nodes, api.Node{Kind: 3, Links: 1, To: strings.Repeat("./", 126) + fmt.Sprint("l", i+1)})
	}
	if got, err := Resolve(f, 0, "/l2", true); err != api.OK || got.Name != "l10" || got.Calls != 1+8*(127+1) {
		t.Error(got, err)
	}
	if got, err := Resolve(f, 0, "/l1", true); err != api.ErrLoop || got.Calls != 1+8*(127+1) || got.Calls > Most()+api.MaxHops {
		t.Error(got, err)
	}
}

// P21.4
func TestWhere(t *testing.T) {
	f := sample()
	for _, c := range []struct {
		x    api.Found
		want bool
	}{
		{api.Found{Node: x, Path: "/d/x"}, true}, {api.Found{Node: l, Path: "/l"}, true}, {api.Found{Node: x, Path: "/l/x"}, true}, {api.Found{Node: x, Path: "d/x"}, true}, {api.Found{Path: "/"}, true},
		{api.Found{}, false}, {api.Found{Node: -1, Path: "/none"}, false}, {api.Found{Node: d, Path: "/l"}, false}, {api.Found{Node: x, Path: "/abs"}, false}, {api.Found{Node: x, Path: "/d/y"}, false}, {api.Found{Node: -1, Path: "/d/x"}, false}, {api.Found{Node: -2, Path: "/none"}, false},
	} {
		got, ok := Where(f, c.x)
		if ok != c.want || got != map[bool]string{true: c.x.Path}[c.want] {
			t.Errorf("%+v: %q, %v", c.x, got, ok)
		}
	}
	f.Nodes[x].Links = 5
	if got, ok := Where(f, api.Found{Path: "/"}); ok || got != "" {
		t.Error(got, ok)
	}
}

// P21.5
func TestCanonical(t *testing.T) {
	f := sample()
	pieces := []string{".", "..", "d", "l", "up", "e", "x", "abs", "dangling", "self", "none"}
	for _, a := range pieces {
		for _, b := range pieces {
			for _, c := range pieces {
				for _, cwd := range []int{0, d, e} {
					before := clone.Fs(f)
					got, err := Resolve(f, cwd, a+"/"+b+"/"+c, true)
					if !reflect.DeepEqual(f, before) {
						t.Fatal("changed")
					}
					if err != api.OK {
						continue
					}
					again, err := Resolve(f, 0, got.Path, false)
					if err != api.OK || again.Path != got.Path || again.Node != got.Node || again.Calls != strings.Count(got.Path, "/")-strings.Count("/", got.Path) {
						t.Errorf("%s/%s/%s from %d: %+v, %+v", a, b, c, cwd, got, again)
					}
				}
			}
		}
	}
}
