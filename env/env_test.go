package env

import (
	"fmt"
	"slices"
	"strings"
	"testing"

	"turnkey/api"
)

func numbered(n int) []string {
	var out []string
	for i := range n {
		out = append(out, fmt.Sprintf("N%03d=%d", i, i))
	}
	return out
}

func invalid() [][]string {
	return [][]string{
		{"A"}, {"=1"}, {""}, {"1A=1"}, {"A-B=1"}, {"A=1", "A=2"}, {"B=1", "A=1"}, {"A=\x00"}, {"A=" + strings.Repeat("x", 255)}, numbered(33), {strings.Repeat("N", 33) + "=1"}, {"A1=x", "A=y"},
	}
}

// P11.1
func TestName(t *testing.T) {
	for s, want := range map[string]bool{
		"A": true, "_": true, "a1_Z": true, "z9": true, "": false, "1": false, "1a": false, "a-b": false, "a=": false, "\xc3\xa9": false, "a\x00": false, " a": false,
		strings.Repeat("n", 32): true, strings.Repeat("n", 33): false,
	} {
		if Name(s) != want {
			t.Errorf("Name(%q) = %v", s, !want)
		}
	}
}

// P11.1
func TestCheck(t *testing.T) {
	for _, e := range [][]string{nil, {}, {"A=1"}, {"A="}, {"A=b=c"}, {"A=1", "A1=2", "A_=1", "a=1"}, numbered(32), {"A=" + strings.Repeat("x", 254)}, {"A=\n\xff "}} {
		if !Check(e) {
			t.Errorf("%q is valid", e)
		}
	}
	for _, e := range invalid() {
		if Check(e) {
			t.Errorf("%q is not valid", e)
		}
	}
}

// P11.1
func TestOf(t *testing.T) {
	got := Of([]string{"Z=1", "bad", "A=1", "A=2", "", "=x", "A1=3", "1=1", "B=\x00", "B=" + strings.Repeat("x", 255), "Z=0"})
	if !slices.Equal(got, []string{"A=2", "A1=3", "Z=0"}) {
		t.Error(got)
	}
	many := numbered(40)
	slices.Reverse(many)
	if got := Of(many); !slices.Equal(got, numbered(40)[:32]) {
		t.Error(got)
	}
	if len(Of(nil)) != 0 {
		t.Error("nothing")
	}
}

// P11.2
func TestGet(t *testing.T) {
	e := []string{"A=1", "AB=", "B=x=y"}
	for name, want := range map[string]string{"A": "1", "AB": "", "B": "x=y"} {
		if v, ok := Get(e, name); v != want || !ok {
			t.Error(name, v, ok)
		}
	}
	for _, name := range []string{"", "C", "a", "A=1", "B=x"} {
		if v, ok := Get(e, name); v != "" || ok {
			t.Error(name, v, ok)
		}
	}
	for _, e := range invalid() {
		if v, ok := Get(e, "A"); v != "" || ok {
			t.Error(e, v, ok)
		}
	}
}

// P11.2
func TestSet(t *testing.T) {
	e := []string{"A=1", "C=3"}
	for _, c := range []struct {
		name, value string
		want        []string
		err         api.Errno
	}{
		{"B", "2", []string{"A=1", "B=2", "C=3"}, api.OK}, {"A", "9", []string{"A=9", "C=3"}, api.OK}, {"A1", "", []string{"A=1", "A1=", "C=3"}, api.OK}, {"D", "x=y", []string{"A=1", "C=3", "D=x=y"}, api.OK},
		{"", "1", e, api.ErrArg}, {"1", "1", e, api.ErrArg}, {"B=C", "1", e, api.ErrArg}, {"B", "\x00", e, api.ErrArg}, {"B", strings.Repeat("x", 255), e, api.ErrArg}, {"B", strings.Repeat("x", 254), []string{"A=1", "B=" + strings.Repeat("x", 254), "C=3"}, api.OK},
	} {
		if got, err := Set(e, c.name, c.value); err != c.err || !slices.Equal(got, c.want) {
			t.Errorf("Set(%q, %q) = %q, %d", c.name, c.value, got, err)
		}
	}
	full := numbered(32)
	if got, err := Set(full, "Z", "1"); err != api.ErrLimit || !slices.Equal(got, full) {
		t.Error(got, err)
	}
	if got, err := Set(full, "N000", "x"); err != api.OK || got[0] != "N000=x" || len(got) != 32 {
		t.Error(got, err)
	}
	if got, err := Set(full, "Z", "\x00"); err != api.ErrArg || !slices.Equal(got, full) {
		t.Error(got, err)
	}
	for _, e := range invalid() {
		if got, err := Set(e, "A", "1"); err != api.ErrArg || !slices.Equal(got, e) {
			t.Error(e, got, err)
		}
	}
	got, _ := Set(e, "", "")
	got[0] = "changed"
	if e[0] != "A=1" {
		t.Error("the argument is shared")
	}
}

// P11.2
func TestUnset(t *testing.T) {
	e := []string{"A=1", "B=2", "C=3"}
	if got := Unset(e, "B"); !slices.Equal(got, []string{"A=1", "C=3"}) || e[1] != "B=2" {
		t.Error(got)
	}
	if got := Unset(e, "X"); !slices.Equal(got, e) {
		t.Error(got)
	}
	for _, e := range invalid() {
		if got := Unset(e, "A"); !slices.Equal(got, e) {
			t.Error(e, got)
		}
	}
}

// P11.3
func TestRight(t *testing.T) {
	for _, c := range []struct {
		r    api.EnvRule
		want bool
	}{
		{api.EnvRule{Kind: api.EnvKeep, Pattern: "*"}, true}, {api.EnvRule{Kind: api.EnvDrop, Pattern: strings.Repeat("x", 256)}, true}, {api.EnvRule{Kind: api.EnvKeep, Pattern: "a b\x00"}, true},
		{api.EnvRule{Kind: api.EnvKeep}, false}, {api.EnvRule{Kind: api.EnvDrop, Pattern: strings.Repeat("x", 257)}, false}, {api.EnvRule{Kind: api.EnvKeep, Pattern: "*", Value: "x"}, false},
		{api.EnvRule{Kind: api.EnvSet, Pattern: "A", Value: "x=y"}, true}, {api.EnvRule{Kind: api.EnvSet, Pattern: "A"}, true}, {api.EnvRule{Kind: api.EnvSet, Pattern: "*", Value: "x"}, false}, {api.EnvRule{Kind: api.EnvSet, Pattern: "A=B", Value: "x"}, false},
		{api.EnvRule{Kind: api.EnvSet, Pattern: "A", Value: strings.Repeat("x", 255)}, false}, {api.EnvRule{Kind: api.EnvSet, Pattern: "A", Value: "\x00"}, false}, {api.EnvRule{Kind: api.EnvSet}, false},
		{api.EnvRule{}, false}, {api.EnvRule{Kind: 4, Pattern: "A"}, false}, {api.EnvRule{Kind: -1, Pattern: "A"}, false},
	} {
		if Right(c.r) != c.want {
			t.Errorf("%+v: %v", c.r, !c.want)
		}
	}
}

// P11.3
func TestScrub(t *testing.T) {
	keep := func(p string) api.EnvRule { return api.EnvRule{Kind: api.EnvKeep, Pattern: p} }
	drop := func(p string) api.EnvRule { return api.EnvRule{Kind: api.EnvDrop, Pattern: p} }
	set := func(n, v string) api.EnvRule { return api.EnvRule{Kind: api.EnvSet, Pattern: n, Value: v} }
	e := []string{"A=1", "LD_X=2", "Z=3"}
	for _, c := range []struct {
		rules []api.EnvRule
		want  []string
	}{
		{nil, nil}, {[]api.EnvRule{keep("*"), drop("LD_*"), set("Z", "4")}, []string{"A=1", "Z=4"}}, {[]api.EnvRule{drop("LD_*"), keep("*")}, []string{"A=1", "Z=3"}},
		{[]api.EnvRule{keep("[AZ]")}, []string{"A=1", "Z=3"}}, {[]api.EnvRule{set("B", "1"), set("B", "2")}, []string{"B=2"}}, {[]api.EnvRule{set("A", "9"), drop("A")}, []string{"A=9"}},
		{[]api.EnvRule{keep(""), keep("A"), {Kind: api.EnvDrop, Pattern: "A", Value: "x"}, {Kind: 9, Pattern: "*"}, set("1", "x")}, []string{"A=1"}},
	} {
		if got := Scrub(e, c.rules); !slices.Equal(got, c.want) {
			t.Errorf("%+v: %q", c.rules, got)
		}
	}
	for _, e := range invalid() {
		if got := Scrub(e, []api.EnvRule{keep("*"), set("A", "1")}); len(got) != 0 {
			t.Error(e, got)
		}
	}
	if got := Scrub(numbered(32), []api.EnvRule{keep("*"), set("Z", "1"), set("N001", "x")}); len(got) != 32 || got[1] != "N001=x" {
		t.Error(got)
	}
}

// P11.4
func TestConsequences(t *testing.T) {
	rules := []api.EnvRule{{Kind: api.EnvKeep, Pattern: "A*"}, {Kind: api.EnvKeep, Pattern: "?"}, {Kind: api.EnvDrop, Pattern: "AB"}, {Kind: api.EnvSet, Pattern: "Q", Value: "1"}}
	for _, e := range [][]string{nil, {"A=1", "AB=2", "ABC=3", "Q=9", "XY=1"}, {"XY=1"}} {
		got := Scrub(e, rules)
		if !Check(got) || !slices.Equal(Scrub(got, rules), got) {
			t.Errorf("%q: %q", e, got)
		}
		for _, s := range got {
			if s != "Q=1" && !slices.Contains(e, s) {
				t.Errorf("%q: %q", e, got)
			}
		}
	}
}
