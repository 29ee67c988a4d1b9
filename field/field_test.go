package field

import (
	"fmt"
	"reflect"
	"slices"
	"strings"
	"testing"

	"turnkey/api"
)

func soft(s string) api.Piece   { return api.Piece{Text: s, Soft: true} }
func quoted(s string) api.Piece { return api.Piece{Text: s, Quoted: true} }
func plain(s string) api.Piece  { return api.Piece{Text: s} }
func gap(p api.Piece) api.Piece { p.Gap = true; return p }

// show writes fields down: quoted pieces in angles.
func show(l [][]api.Piece) string {
	var out []string
	for _, f := range l {
		s := ""
		for _, p := range f {
			if p.Soft || p.Gap {
				s += "!"
			}
			if p.Quoted {
				s += "<" + p.Text + ">"
			} else {
				s += "(" + p.Text + ")"
			}
		}
		out = append(out, "["+s+"]")
	}
	return strings.Join(out, "")
}

// P29.1
func TestSplit(t *testing.T) {
	for _, c := range []struct {
		l    []api.Piece
		ifs  string
		want string
	}{
		{nil, " ", ""}, {[]api.Piece{soft("")}, " ", ""}, {[]api.Piece{plain("")}, " ", ""}, {[]api.Piece{quoted("")}, " ", "[<>]"}, {[]api.Piece{soft("  ")}, " ", ""}, {[]api.Piece{soft(" a  b ")}, " ", "[(a)][(b)]"},
		{[]api.Piece{soft("a b:c")}, " :", "[(a)][(b)][(c)]"}, {[]api.Piece{soft("a::b")}, " :", "[(a)][][(b)]"}, {[]api.Piece{soft(":a:")}, ":", "[][(a)]"}, {[]api.Piece{soft("::")}, ":", "[][]"}, {[]api.Piece{soft("a : b")}, " :", "[(a)][(b)]"}, {[]api.Piece{soft("a : : b")}, " :", "[(a)][][(b)]"}, {[]api.Piece{soft(" :a")}, " :", "[][(a)]"}, {[]api.Piece{soft("a :")}, " :", "[(a)]"}, {[]api.Piece{soft("a ::")}, " :", "[(a)][]"},
		{[]api.Piece{soft("a\tb\nc d")}, "\t", "[(a)][(b\nc d)]"}, {[]api.Piece{soft("a b")}, "", "[(a b)]"}, {[]api.Piece{soft("a\rb")}, "\r", "[(a)][(b)]"}, {[]api.Piece{soft("a\xffb\x00c")}, "\xff\x00", "[(a)][(b)][(c)]"},
		{[]api.Piece{plain("a b")}, " ", "[(a b)]"}, {[]api.Piece{quoted("a b")}, " ", "[<a b>]"}, {[]api.Piece{{Text: "a b", Quoted: true, Soft: true}}, " ", "[<a b>]"}, {[]api.Piece{plain("x"), soft("a b"), plain("y")}, " ", "[(xa)][(by)]"}, {[]api.Piece{plain("x"), soft(" "), plain("y")}, " ", "[(x)][(y)]"}, {[]api.Piece{quoted("x"), soft("a "), quoted("y"), quoted("z")}, " ", "[<x>(a)][<y><z>]"}, {[]api.Piece{soft(" "), quoted("")}, " ", "[<>]"}, {[]api.Piece{quoted(""), soft(" ")}, " ", "[<>]"}, {[]api.Piece{quoted(""), soft(":")}, ":", "[<>]"},
		{[]api.Piece{soft("a "), soft(": b")}, " :", "[(a)][(b)]"}, {[]api.Piece{soft("a"), soft("b")}, " ", "[(ab)]"}, {[]api.Piece{soft("a"), soft(""), plain("b"), quoted(""), plain("c")}, " ", "[(ab)<>(c)]"},
		{[]api.Piece{soft("a"), gap(soft("b"))}, " ", "[(a)][(b)]"}, {[]api.Piece{gap(soft("a"))}, " ", "[(a)]"}, {[]api.Piece{soft(""), gap(soft("b"))}, " ", "[][(b)]"}, {[]api.Piece{quoted("a"), gap(quoted("")), gap(quoted("c"))}, " ", "[<a>][<>][<c>]"}, {[]api.Piece{soft("a "), gap(soft("b"))}, " ", "[(a)][][(b)]"}, {[]api.Piece{soft("a"), gap(soft("")), gap(soft("c"))}, " ", "[(a)][][(c)]"}, {[]api.Piece{plain("x"), gap(soft(":b"))}, ":", "[(x)][][(b)]"}, {[]api.Piece{soft("a "), gap(soft(":b"))}, " :", "[(a)][][][(b)]"}, {[]api.Piece{gap(soft("")), gap(soft(""))}, " ", "[]"},
	} {
		before := slices.Clone(c.l)
		if got := show(Split(c.l, c.ifs)); got != c.want || !slices.Equal(c.l, before) {
			t.Errorf("Split(%+v, %q) = %s; want %s", c.l, c.ifs, got, c.want)
		}
	}
}

// P29.2
func TestTextPatternSpecial(t *testing.T) {
	for _, c := range []struct {
		f             []api.Piece
		text, pattern string
		special       bool
	}{
		{nil, "", "", false}, {[]api.Piece{plain("a*"), quoted("*b"), plain("[c]")}, "a**b[c]", `a*\*b[c]`, true}, {[]api.Piece{quoted("*?[a]\\")}, "*?[a]\\", `\*\?\[a]\\`, false}, {[]api.Piece{plain("[a"), quoted("]")}, "[a]", "[a]", true}, {[]api.Piece{plain("["), quoted("a")}, "[a", "[a", false}, {[]api.Piece{plain(`\*`)}, `\*`, `\*`, false},
	} {
		if Text(c.f) != c.text || Pattern(c.f) != c.pattern || Special(c.f) != c.special {
			t.Errorf("%+v: %q, %q, %v", c.f, Text(c.f), Pattern(c.f), Special(c.f))
		}
	}
}

// P29.3
func TestLine(t *testing.T) {
	for _, c := range []struct {
		s, ifs string
		n      int
		want   []string
	}{
		{"a b c", " ", 2, []string{"a", "b c"}}, {" a  b  c ", " ", 2, []string{"a", "b  c"}}, {" a  ", " ", 1, []string{"a"}}, {"a", " ", 3, []string{"a", "", ""}}, {"", " ", 1, []string{""}}, {"  ", " ", 2, []string{"", ""}}, {"a:b:", ":", 2, []string{"a", "b:"}}, {"a:b", ":", 3, []string{"a", "b", ""}}, {"a:b:", ":", 3, []string{"a", "b", ""}}, {"::b", ":", 1, []string{"::b"}}, {"::b", ":", 2, []string{"", ":b"}}, {"::b", ":", 3, []string{"", "", "b"}}, {":", ":", 1, []string{":"}}, {" : b : ", ": ", 1, []string{": b :"}}, {" : b : ", ": ", 2, []string{"", "b :"}},
		{"a b \t", " ", 2, []string{"a", "b \t"}}, {"a b", "", 1, []string{"a b"}}, {"a b ", "", 2, []string{"a b ", ""}}, {"a b", " ", 0, nil}, {"a b", " ", -1, nil}, {"a b", " ", 101, nil}, {"a\\ b", " ", 1, []string{`a\ b`}},
	} {
		if got := Line(c.s, c.ifs, c.n); !reflect.DeepEqual(got, c.want) {
			t.Errorf("Line(%q, %q, %d) = %q; want %q", c.s, c.ifs, c.n, got, c.want)
		}
	}
	if got := Line("a b", " ", 100); len(got) != 100 || got[1] != "b" || got[99] != "" {
		t.Error(got)
	}
}

// P29.3: the words are those of Split.
func TestLineIsSplit(t *testing.T) {
	for _, s := range []string{"", "a", " a b", "a::b: c ", ": :", "a  b c d"} {
		fields := Split([]api.Piece{soft(s)}, " :")
		got := Line(s, " :", 20)
		for i, f := range fields {
			if got[i] != Text(f) {
				t.Errorf("%q: %q", s, got)
			}
		}
		if fmt.Sprint(got[len(fields):]) != fmt.Sprint(make([]string, 20-len(fields))) {
			t.Errorf("%q: %q", s, got)
		}
	}
}

// P29.4
func TestConsequences(t *testing.T) {
	for _, s := range []string{"a b", " : ", "\n\t", "x"} {
		if got := Split([]api.Piece{quoted(s)}, " :\n\tx"); len(got) != 1 || Text(got[0]) != s {
			t.Error(s, got)
		}
		if got := Split([]api.Piece{soft(s)}, ""); len(got) != 1 || Text(got[0]) != s {
			t.Error(s, got)
		}
	}
}
