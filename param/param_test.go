package param

import (
	"fmt"
	"reflect"
	"slices"
	"strings"
	"testing"

	"turnkey/api"
)

func numbered(n int) []api.Var {
	var out []api.Var
	for i := range n {
		out = append(out, api.Var{Name: fmt.Sprintf("N%03d", i), Value: "v"})
	}
	return out
}

func invalid() [][]api.Var {
	return [][]api.Var{
		{{}}, {{Name: "1"}}, {{Name: "A-"}}, {{Name: strings.Repeat("n", 33)}}, {{Name: "A", Value: "\x00"}}, {{Name: "A", Value: strings.Repeat("x", 1025)}}, {{Name: "A"}, {Name: "A"}}, {{Name: "B"}, {Name: "A"}}, numbered(65),
	}
}

var sample = []api.Var{{Name: "A", Value: "1"}, {Name: "C", Value: "", Export: true}, {Name: "E", Value: "5", Export: true}}

// P28.1
func TestCheck(t *testing.T) {
	for _, v := range [][]api.Var{nil, sample, numbered(64), {{Name: "_"}, {Name: "a", Value: strings.Repeat("x", 1024)}}, {{Name: "A", Value: "\n\xff="}}} {
		if !Check(v) {
			t.Errorf("%v is valid", v)
		}
	}
	for _, v := range invalid() {
		if Check(v) {
			t.Errorf("%v is not valid", v)
		}
	}
}

// P28.1, P28.2: an invalid list comes back as it is.
func TestInvalid(t *testing.T) {
	for _, v := range invalid() {
		name := v[0].Name
		value, ok := Get(v, name)
		set, e1 := Set(v, "A", "1")
		unset := Unset(v, name)
		export, e2 := Export(v, "A")
		if value != "" || ok || e1 != api.ErrArg || e2 != api.ErrArg || len(Env(v)) != 0 || !slices.Equal(set, v) || !slices.Equal(unset, v) || !slices.Equal(export, v) {
			t.Errorf("%v", v)
		}
		if p, ok := Param(v, []string{"a"}, "z", 3, "1"); p != "a" || !ok {
			t.Error(p, ok)
		}
		if p, ok := Param(v, nil, "z", 3, name); p != "" || ok {
			t.Error(p, ok)
		}
	}
}

// P28.1
func TestGetSetUnset(t *testing.T) {
	for name, want := range map[string]string{"A": "1", "C": "", "E": "5"} {
		if got, ok := Get(sample, name); got != want || !ok {
			t.Error(name, got, ok)
		}
	}
	for _, name := range []string{"", "B", "a", "AA"} {
		if got, ok := Get(sample, name); got != "" || ok {
			t.Error(name, got, ok)
		}
		if !slices.Equal(Unset(sample, name), sample) {
			t.Error(name)
		}
	}
	for _, c := range []struct {
		name, value string
		want        api.Errno
	}{{"A", "2", 0}, {"C", "x", 0}, {"E", "5", 0}, {"B", "7", 0}, {"_", strings.Repeat("x", 1024), 0}, {"", "x", api.ErrArg}, {"1", "x", api.ErrArg}, {"A=", "x", api.ErrArg}, {"A", "\x00", api.ErrArg}, {"B", strings.Repeat("x", 1025), api.ErrArg}} {
		got, e := Set(sample, c.name, c.value)
		if e != c.want || e != 0 && !slices.Equal(got, sample) {
			t.Errorf("Set(%q, %.9q) = %v, %d", c.name, c.value, got, e)
		}
		if e != 0 {
			continue
		}
		value, ok := Get(got, c.name)
		i := slices.IndexFunc(got, func(x api.Var) bool { return x.Name == c.name })
		if !Check(got) || value != c.value || !ok || got[i].Export != (c.name == "C" || c.name == "E") {
			t.Errorf("Set(%q, %.9q) = %v", c.name, c.value, got)
		}
		if !slices.Equal(Unset(got, c.name), slices.DeleteFunc(slices.Clone(sample), func(x api.Var) bool { return x.Name == c.name })) {
			t.Errorf("Unset(%q)", c.name)
		}
	}
	full := numbered(64)
	if got, e := Set(full, "A", "1"); e != api.ErrLimit || !slices.Equal(got, full) {
		t.Error(e)
	}
	if got, e := Set(full, "A", "\x00"); e != api.ErrArg || !slices.Equal(got, full) {
		t.Error(e)
	}
	if got, e := Set(full, "N007", "1"); e != 0 || len(got) != 64 || got[7].Value != "1" || full[7].Value != "v" {
		t.Error(e)
	}
}

// P28.1
func TestExport(t *testing.T) {
	got, e := Export(sample, "A")
	if want := (api.Var{Name: "A", Value: "1", Export: true}); e != 0 || got[0] != want || len(got) != 3 || sample[0].Export {
		t.Error(got, e)
	}
	if got, e := Export(sample, "C"); e != 0 || !slices.Equal(got, sample) {
		t.Error(got, e)
	}
	if got, e := Export(sample, "B"); e != 0 || !reflect.DeepEqual(got[1], api.Var{Name: "B", Export: true}) || !Check(got) {
		t.Error(got, e)
	}
	for name, want := range map[string]api.Errno{"": api.ErrArg, "1": api.ErrArg, "A=1": api.ErrArg} {
		if got, e := Export(sample, name); e != want || !slices.Equal(got, sample) {
			t.Error(name, got, e)
		}
	}
	if got, e := Export(numbered(64), "A"); e != api.ErrLimit || !slices.Equal(got, numbered(64)) {
		t.Error(e)
	}
}

// P28.2
func TestEnv(t *testing.T) {
	if got := Env(sample); !slices.Equal(got, []string{"C=", "E=5"}) {
		t.Error(got)
	}
	many := numbered(64)
	for i := range many {
		many[i].Export = true
	}
	many[0].Value = strings.Repeat("x", 300)
	if got := Env(many); len(got) != 32 || got[0] != "N001=v" {
		t.Error(got)
	}
}

// P28.3
func TestParam(t *testing.T) {
	args := []string{"one", "", "three"}
	for name, want := range map[string]string{"?": "42", "#": "3", "0": "sh", "@": "one  three", "*": "one  three", "1": "one", "2": "", "3": "three", "A": "1", "C": ""} {
		if got, ok := Param(sample, args, "sh", 42, name); got != want || !ok {
			t.Errorf("%q: %q, %v", name, got, ok)
		}
	}
	for _, name := range []string{"4", "9", "", "B", "10", "00", "-", "!", "??"} {
		if got, ok := Param(sample, args, "sh", 42, name); got != "" || ok {
			t.Errorf("%q: %q, %v", name, got, ok)
		}
	}
	for name, want := range map[string]bool{"@": false, "*": false, "#": true, "?": true, "0": true} {
		if _, ok := Param(nil, nil, "", -1, name); ok != want {
			t.Error(name, ok)
		}
	}
	if got, _ := Param(nil, nil, "", -1, "?"); got != "-1" {
		t.Error(got)
	}
	if got, ok := Param(nil, []string{""}, "", 0, "@"); got != "" || !ok {
		t.Error(got, ok)
	}
}

// P28.4
func TestCut(t *testing.T) {
	for _, c := range [][4]string{
		{"a/b/c", "%", "/*", "a/b"}, {"a/b/c", "%%", "/*", "a"}, {"a/b/c", "#", "*/", "b/c"}, {"a/b/c", "##", "*/", "c"}, {"abc", "#", "*", "abc"}, {"abc", "##", "*", ""}, {"abc", "%", "*", "abc"}, {"abc", "%%", "*", ""},
		{"abc", "#", "x", "abc"}, {"abc", "%", "x", "abc"}, {"abc", "##", "x*", "abc"}, {"abc", "%%", "*x", "abc"}, {"abc", "#", "", "abc"}, {"", "##", "*", ""}, {"abc", "#", "abc", ""}, {"abc", "%", "abc", ""}, {"abc", "#", "?", "bc"}, {"abc", "%", "[a-c]", "ab"}, {"a*b", "%", `\*b`, "a"},
		{"abc", "", "*", "abc"}, {"abc", "-", "*", "abc"}, {"abc", "###", "*", "abc"}, {"abc", "%%%", "*", "abc"},
	} {
		if got := Cut(c[0], c[1], c[2]); got != c[3] {
			t.Errorf("Cut(%q, %q, %q) = %q", c[0], c[1], c[2], got)
		}
	}
	most := strings.Repeat("x", 1024)
	if Cut(most, "##", "*") != "" || Cut(most+"x", "##", "*") != most+"x" || Cut(most, "#", most+"x") != most {
		t.Error("the limit is 1024 bytes")
	}
}

// P28.4
func TestLength(t *testing.T) {
	for s, want := range map[string]int{"": 0, "abc": 3, "\xc3\xa9t\xc3\xa9": 3, "\x80\xbf": 0, "\x7f\xc0\xff": 3, "\xf0\x9f\x98\x80": 1, "a\x00": 2} {
		if got := Length(s); got != want {
			t.Errorf("Length(%q) = %d", s, got)
		}
	}
}

// P28.5
func TestCutLeavesAnEnd(t *testing.T) {
	for _, value := range []string{"", "a", "abab", "a/b.c.d", "***"} {
		for _, pattern := range []string{"", "*", "?", "a*", "*b", "[!a]", `\*`, "*.*"} {
			for _, op := range []string{"#", "##", "%", "%%"} {
				got := Cut(value, op, pattern)
				if op[0] == '#' && !strings.HasSuffix(value, got) || op[0] == '%' && !strings.HasPrefix(value, got) {
					t.Errorf("Cut(%q, %q, %q) = %q", value, op, pattern, got)
				}
			}
		}
	}
}
