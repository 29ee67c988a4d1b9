package glob

import (
	"strings"
	"testing"
	"time"
)

// P3.1
func TestPatterns(t *testing.T) {
	for _, c := range []struct {
		p, s string
		want bool
	}{
		{"", "", true}, {"", "a", false}, {"a", "", false}, {"a", "a", true}, {"a", "b", false},
		{"*", "", true}, {"*", "abc", true}, {"a*c", "abbc", true}, {"a*c", "abb", false}, {"**", "x", true},
		{"*a*b*", "xxaxxbx", true}, {"*a*b*", "xxbxxax", false}, {"*ab", "aab", true},
		{"?", "", false}, {"?", "/", true}, {"?", "ab", false}, {"??", "\xc3\xa9", true},
		{`\*`, "*", true}, {`\*`, "x", false}, {`\a`, "a", true}, {`\`, `\`, true}, {`a\`, `a\`, true}, {`\\`, `\`, true}, {`\\`, `\\`, false},
		{"[abc]", "b", true}, {"[abc]", "d", false}, {"[a-c]", "b", true}, {"[c-a]", "b", false}, {"[c-a]", "c", false},
		{"[!a-c]?", "dx", true}, {"[!a-c]?", "bx", false}, {"[!a]", "!", true},
		{"[]]", "]", true}, {"[]a]", "a", true}, {"[]", "[]", true}, {"[]", "]", false}, {"[!]", "[!]", true}, {"[!]", "x", false}, {"[!]]", "x", true}, {"[!]]", "]", false},
		{"[--a]", "A", true}, {"[--a]", "-", true}, {"[--a]", "b", false}, {"[--a]", ",", false},
		{"[a-]", "-", true}, {"[a-]", "b", false}, {"[-a]", "-", true}, {"[a-c-e]", "d", false}, {"[a-c-e]", "-", true}, {"[a-c-e]", "e", true},
		{"[]-a]", "_", true}, {"[]-a]", "-", false}, {"[a-]]", "-]", true}, {"[a-]]", "b", false},
		{`[\]`, `\`, true}, {`[\]]`, `\]`, true}, {`[\]]`, "]", false}, {`[\a]`, "a", true},
		{"[a", "[a", true}, {"[a", "a", false}, {"[", "[", true}, {"[!", "[!", true}, {"a[", "a[", true},
		{"[!!]", "!", false}, {"[!!]", "a", true}, {"[a!]", "!", true}, {"[*]", "*", true}, {"[*]", "a", false}, {"[?]", "a", false},
		{"[\x80-\xff]", "\x90", true}, {"[a-\xff]", "\xff", true}, {"[\x00-\xff]", "\x00", true},
	} {
		if got := Match(c.p, c.s); got != c.want {
			t.Errorf("Match(%q, %q) = %v", c.p, c.s, got)
		}
	}
}

// P3.2
func TestPath(t *testing.T) {
	for _, c := range []struct {
		p, s string
		want bool
	}{
		{"/home/**/x", "/home/x", true}, {"/home/**/x", "/home/a/b/x", true}, {"/home/**/x", "/home/a/y", false},
		{"/**", "/", true}, {"/**", "/a/b", true}, {"/", "/", true}, {"/", "/a", false}, {"/*", "/", false}, {"/*", "/a", true}, {"/*", "/a/b", false},
		{"/*", "//", false}, {"/*", "/a/", false}, {"/a/", "/a/", true}, {"/a/", "/a", false}, {"/a/*", "/a/", true}, {"/a//b", "/a//b", true}, {"/a/b", "/a//b", false}, {"/a/*/b", "/a//b", true},
		{"//", "/", false}, {"//", "//", true}, {"/*/*", "//", true},
		{"/**/**", "/", true}, {"/**/a/**/b", "/a/a/c/b", true}, {"/**/a/**/b", "/c/b", false}, {"/a**", "/abc", true}, {"/a**", "/a/b", false}, {"/***", "/a/b", false}, {"/***", "/a", true},
		{"/[a/b]", "/[a/b]", true}, {"/[a/b]", "/a", false}, {`/a\/b`, `/a\/b`, true}, {`/\*`, "/*", true}, {`/\**`, "/*x", true},
		{"a", "a", false}, {"a", "/a", false}, {"/a", "a", false}, {"", "", false}, {"/", "", false}, {"", "/", false}, {"**", "/a", false},
	} {
		if got := Path(c.p, c.s); got != c.want {
			t.Errorf("Path(%q, %q) = %v", c.p, c.s, got)
		}
	}
}

// P3.2
func TestLimit(t *testing.T) {
	most, more := strings.Repeat("a", 1024), strings.Repeat("a", 1025)
	if !Match(most, most) || !Match("*", most) || Match("*", more) || Match(strings.Repeat("*", 1025), "") || Match(more, more) {
		t.Error("Match has the limit of 1024 bytes")
	}
	if !Path("/**", "/"+most[1:]) || Path("/**", "/"+most) || Path("/"+strings.Repeat("*", 1024), "/") || !Path("/"+most[1:], "/"+most[1:]) {
		t.Error("Path has the limit of 1024 bytes")
	}
}

// P3.2: every call ends, and soon.
func TestManyStars(t *testing.T) {
	begin := time.Now()
	if Match(strings.Repeat("*a", 500)+"b", strings.Repeat("a", 1024)) || Path(strings.Repeat("/**/a", 200)+"/b", strings.Repeat("/a", 500)) {
		t.Error("matched")
	}
	if time.Since(begin) > 5*time.Second {
		t.Error("stars are tried in all combinations")
	}
}

// P3.3
func TestSpecial(t *testing.T) {
	for p, want := range map[string]bool{
		"": false, "a": false, "*": true, "a?": true, "[a]": true, "[a": false, "[]": false, "[!]": false, "[]]": true,
		`\*`: false, `\\*`: true, `\\\*`: false, `\[a]`: false, `[a\]`: true, `\`: false, "[*": true, `[\*`: false, "]": false, `[a]\`: true, "[[a]": true,
	} {
		if got := Special(p); got != want {
			t.Errorf("Special(%q) = %v", p, got)
		}
	}
}

// P3.3
func TestQuoteAndAny(t *testing.T) {
	if got := Quote(`a*?[]\-!`); got != `a\*\?\[]\\-!` {
		t.Error(got)
	}
	if Quote("") != "" {
		t.Error("empty")
	}
	if !Any([]string{"a", "b*"}, "bc") || Any([]string{"a", "b"}, "c") || Any(nil, "") || !Any([]string{""}, "") {
		t.Error("Any")
	}
}

// P3.4
func TestConsequences(t *testing.T) {
	texts := []string{"", "a", "*", "?", "[a]", `\`, `\*`, "[!a-z]", "[", "]", "a*b?", `a\`, "\x00\xff"}
	for _, s := range texts {
		for _, other := range texts {
			if Match(Quote(s), other) != (s == other) {
				t.Errorf("Quote(%q) and %q", s, other)
			}
			// A backslash at the end would escape the star.
			if strings.HasSuffix(s, `\`) {
				continue
			}
			for i := range len(other) + 1 {
				if Match(s, other[:i]) && !Match(s+"*", other) {
					t.Errorf("%q matches the beginning %q of %q", s, other[:i], other)
				}
			}
		}
	}
}
