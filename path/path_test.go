package path

import (
	"slices"
	"strings"
	"testing"

	"turnkey/api"
)

var long = strings.Repeat("n", 33)

// P4.1
func TestCheck(t *testing.T) {
	most := strings.Repeat("/abcdefg", 32)
	for _, c := range []struct {
		p    string
		want api.Errno
	}{
		{"", api.ErrNoEnt}, {"/", api.OK}, {"a", api.OK}, {"..//.", api.OK},
		{most, api.OK}, {most + "/", api.ErrNameLong},
		{"/" + long[1:], api.OK}, {"/" + long, api.ErrNameLong}, {long + "/a", api.ErrNameLong},
		{"a\x00", api.ErrInval}, {"\x00" + long, api.ErrNameLong}, {"/a/\x00/" + long, api.ErrNameLong},
	} {
		if got := Check(c.p); got != c.want {
			t.Errorf("Check(%q) = %d", c.p, got)
		}
	}
}

// P4.1
func TestName(t *testing.T) {
	for s, want := range map[string]api.Errno{
		"": api.ErrInval, ".": api.ErrInval, "..": api.ErrInval, "a/b": api.ErrInval, "/": api.ErrInval, "a\x00": api.ErrInval,
		"...": api.OK, "a": api.OK, "\xff\n ": api.OK, long[1:]: api.OK, long: api.ErrNameLong, long + "/": api.ErrInval, long + "\x00": api.ErrInval,
	} {
		if got := Name(s); got != want {
			t.Errorf("Name(%q) = %d", s, got)
		}
	}
}

// P4.2
func TestParts(t *testing.T) {
	for p, want := range map[string][]string{
		"": nil, "/": nil, "///": nil, "a": {"a"}, "/a//b/": {"a", "b"}, "./../x": {".", "..", "x"},
	} {
		if got := Parts(p); !slices.Equal(got, want) {
			t.Errorf("Parts(%q) = %q", p, got)
		}
	}
}

// P4.2
func TestClean(t *testing.T) {
	for p, want := range map[string]string{
		"/a/./b/../c": "/a/c", "../a/..": "..", "": ".", ".": ".", "/": "/", "//": "/", "/..": "/", "/../a": "/a", "a/..": ".", "a/../..": "..",
		"../..": "../..", "../../a": "../../a", "a//b/": "a/b", "/.": "/", "./a": "a", "/a/../../b": "/b", "a/../../b": "../b", "...": "...",
	} {
		if got := Clean(p); got != want {
			t.Errorf("Clean(%q) = %q", p, got)
		}
	}
}

// P4.2
func TestJoin(t *testing.T) {
	for _, c := range [][3]string{
		{"/a", "b", "/a/b"}, {"/a", "/b", "/b"}, {"", "b/../c", "c"}, {"a", "..", "."}, {"a", "", "a"}, {"", "", "."}, {"/", "a", "/a"}, {"/", "..", "/"}, {"a", "../..", ".."}, {".", "a", "a"},
	} {
		if got := Join(c[0], c[1]); got != c[2] {
			t.Errorf("Join(%q, %q) = %q", c[0], c[1], got)
		}
	}
}

// P4.3
func TestLast(t *testing.T) {
	for _, c := range [][3]string{
		{"/", "/", ""}, {"/a", "/", "a"}, {"/a/b", "/a", "b"}, {"a", ".", "a"}, {"a/b/", "a", "b"}, {"", ".", "."}, {"..", ".", ".."}, {"../..", "..", ".."}, {"/a/..", "/", ""}, {"/a/./b/c", "/a/b", "c"},
	} {
		if dir, name := Last(c[0]); dir != c[1] || name != c[2] {
			t.Errorf("Last(%q) = %q, %q", c[0], dir, name)
		}
	}
}

// P4.3
func TestInside(t *testing.T) {
	for _, c := range []struct {
		p, root string
		want    bool
	}{
		{"/a/b", "/a", true}, {"/a", "/a", true}, {"/ab", "/a", false}, {"/", "/a", false}, {"/a", "/", true}, {"/", "/", true},
		{"/a/../b", "/a", false}, {"/b/../a/c", "/c/../a/", true}, {"a", "/", false}, {"/a", "a", false}, {"a", "a", false}, {"", "", false}, {"/a", "", false}, {"/..", "/x/..", true},
	} {
		if got := Inside(c.p, c.root); got != c.want {
			t.Errorf("Inside(%q, %q) = %v", c.p, c.root, got)
		}
	}
}

// P4.4
func TestConsequences(t *testing.T) {
	pieces := []string{"", ".", "..", "a", "bc"}
	for _, a := range pieces {
		for _, b := range pieces {
			for _, c := range pieces {
				for _, p := range []string{a + "/" + b + "/" + c, "/" + a + "/" + b + "/" + c} {
					if Clean(Clean(p)) != Clean(p) {
						t.Errorf("Clean(%q) is not clean", p)
					}
					if dir, name := Last(p); Join(dir, name) != Clean(p) {
						t.Errorf("Join does not reverse Last(%q) = %q, %q", p, dir, name)
					}
				}
			}
		}
	}
}
