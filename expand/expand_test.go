package expand

import (
	"slices"
	"strings"
	"testing"
)

// P30.1
func TestParts(t *testing.T) {
	for _, c := range []struct {
		p      string
		want   []string
		rooted bool
	}{{"", nil, false}, {"/", nil, true}, {"a", []string{"a"}, false}, {"/a//b*/", []string{"a", "b*"}, true}, {"./../x", []string{".", "..", "x"}, false}, {`a\/b`, []string{`a\`, "b"}, false}, {"[a/b]", []string{"[a", "b]"}, false}} {
		if got, rooted := Parts(c.p); !slices.Equal(got, c.want) || rooted != c.rooted {
			t.Errorf("Parts(%q) = %q, %v", c.p, got, rooted)
		}
	}
}

// P30.1
func TestPlain(t *testing.T) {
	for part, want := range map[string]string{"": "", "abc": "abc", `\*a`: "*a", `a\\b`: `a\b`, `a\`: `a\`, `\a\[`: "a[", "[a": "[a", "]": "]", `\[a]`: "[a]"} {
		if got, ok := Plain(part); got != want || !ok {
			t.Errorf("Plain(%q) = %q, %v", part, got, ok)
		}
	}
	for _, part := range []string{"*", "a?", "[a]", `\\*`} {
		if got, ok := Plain(part); got != "" || ok {
			t.Errorf("Plain(%q) = %q, %v", part, got, ok)
		}
	}
}

// P30.2
func TestNames(t *testing.T) {
	names := []string{"b.c", "a.c", ".c", "a.c", "x", ".", "..", "*"}
	for part, want := range map[string][]string{
		"*.c": {"a.c", "b.c"}, "*": {"*", "a.c", "b.c", "x"}, ".*": {".", "..", ".c"}, `\.*`: {".", "..", ".c"}, "?c": nil, ".c": {".c"}, "[.]c": nil, `\*`: {"*"}, "q": nil, "": nil, "[!a]": {"*", "x"},
	} {
		before := slices.Clone(names)
		if got := Names(part, names); !slices.Equal(got, want) || !slices.Equal(names, before) {
			t.Errorf("Names(%q) = %q; want %q", part, got, want)
		}
	}
	if got := Names("*", nil); len(got) != 0 {
		t.Error(got)
	}
}

// P30.2
func TestTildeAndJoin(t *testing.T) {
	for s, want := range map[string]string{"~": "/h", "~/": "/h/", "~/a": "/h/a", "~a": "~a", "": "", "a~": "a~", "/~": "/~", "~~": "~~"} {
		if got := Tilde(s, "/h"); got != want {
			t.Errorf("Tilde(%q) = %q", s, got)
		}
	}
	for _, c := range [][3]string{{"", "a", "a"}, {"/", "a", "/a"}, {"d", "a", "d/a"}, {"d/", "a", "d/a"}, {"", "", ""}, {"d", "", "d/"}} {
		if got := Join(c[0], c[1]); got != c[2] {
			t.Errorf("Join(%q, %q) = %q", c[0], c[1], got)
		}
	}
}

// P30.3
func TestConsequences(t *testing.T) {
	names := []string{"a", ".a", "b c", "", "..", "x.y", "*"}
	for _, part := range []string{"*", ".*", "?", "[a-z]*", "x.y", ""} {
		got := Names(part, names)
		if !slices.IsSorted(got) {
			t.Error(got)
		}
		for _, name := range got {
			if !slices.Contains(names, name) {
				t.Errorf("%q is made up", name)
			}
		}
	}
	all := Names("*", names)
	for _, name := range names {
		if slices.Contains(all, name) == strings.HasPrefix(name, ".") {
			t.Errorf("%q", name)
		}
	}
}
