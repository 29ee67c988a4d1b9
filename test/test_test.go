package test

import (
	"slices"
	"strings"
	"testing"

	"turnkey/api"
)

// P31.1
func TestEval(t *testing.T) {
	for _, c := range []struct {
		args  string // separated by commas; an element _ is empty
		kinds []int
		want  bool
		err   api.Errno
	}{
		{"", nil, false, 0}, {"a", nil, true, 0}, {"_", nil, false, 0}, {"!", nil, true, 0}, {"-e", nil, true, 0}, {"=", nil, true, 0},
		{"!,a", nil, false, 0}, {"!,_", nil, true, 0}, {"!,!", nil, false, 0}, {"-n,a", nil, true, 0}, {"-n,_", nil, false, 0}, {"-z,a", nil, false, 0}, {"-z,_", nil, true, 0},
		{"-e,p", []int{1}, true, 0}, {"-e,p", []int{3}, true, 0}, {"-e,p", []int{0}, false, 0}, {"-e,p", nil, false, 0}, {"-f,p", []int{1}, true, 0}, {"-f,p", []int{2}, false, 0}, {"-d,/", []int{2}, true, 0}, {"-d,p", []int{1}, false, 0}, {"-d,p", nil, false, 0}, {"-h,p", []int{3, 1}, true, 0}, {"-h,p", []int{2, 3}, false, 0},
		{"-x,p", []int{1}, false, api.ErrInval}, {"a,b", nil, false, api.ErrInval}, {"_,_", nil, false, api.ErrInval},
		{"a,=,a", nil, true, 0}, {"a,=,b", nil, false, 0}, {"a,!=,b", nil, true, 0}, {"_,=,_", nil, true, 0}, {"1,-lt,2", nil, true, 0}, {"!,=,!", nil, true, 0}, {"!,=,a", nil, false, 0}, {"!,-eq,a", nil, false, api.ErrInval}, {"x,-eq,1", nil, false, api.ErrInval},
		{"!,-z,a", nil, true, 0}, {"!,-n,a", nil, false, 0}, {"!,-e,p", []int{1}, false, 0}, {"!,!,a", nil, true, 0}, {"!,a,b", nil, false, api.ErrInval}, {"a,b,c", nil, false, api.ErrInval}, {"-n,-n,-n", nil, false, api.ErrInval},
		{"!,a,=,a", nil, false, 0}, {"!,a,=,b", nil, true, 0}, {"!,!,-z,a", nil, false, 0}, {"!,!,=,a", nil, true, 0}, {"!,!,=,!", nil, false, 0}, {"!,!,!,a", nil, false, 0}, {"!,1,-eq,x", nil, false, api.ErrInval}, {"a,=,a,b", nil, false, api.ErrInval}, {"!,a,b,c", nil, false, api.ErrInval},
		{"!,!,a,=,a", nil, false, api.ErrInval}, {"!,!,!,!,a", nil, false, api.ErrInval}, {"a,=,a,=,a", nil, false, api.ErrInval},
	} {
		if got, e := Eval(split(c.args), c.kinds); got != c.want || e != c.err {
			t.Errorf("Eval(%q, %v) = %v, %d", c.args, c.kinds, got, e)
		}
	}
}

func split(s string) []string {
	if s == "" {
		return nil
	}
	l := strings.Split(s, ",")
	for i := range l {
		if l[i] == "_" {
			l[i] = ""
		}
	}
	return l
}

// P31.2
func TestPaths(t *testing.T) {
	for args, want := range map[string]string{
		"": "", "-e": "", "-e,p": "p", "-f,p": "p", "-d,/": "/", "-h,p": "p", "-n,p": "", "-z,p": "", "!,p": "", "-x,p": "", "!,-e,p": "p", "!,-z,p": "", "-e,=,p": "", "!,!,-d,p": "p", "!,-e,=,p": "", "-e,p,q": "", "!,!,!,-e,p": "", "a,b,-e,p": "",
	} {
		if got := Paths(split(args)); !slices.Equal(got, split(want)) {
			t.Errorf("Paths(%q) = %q", args, got)
		}
	}
	if got := Paths([]string{"-e", ""}); !slices.Equal(got, []string{""}) {
		t.Errorf("%q", got)
	}
}

// P31.3
func TestCompare(t *testing.T) {
	for _, c := range []struct {
		op, a, b string
		want     bool
		err      api.Errno
	}{
		{"=", "a", "a", true, 0}, {"=", "1", "01", false, 0}, {"!=", "a", "a", false, 0}, {"!=", "a", "", true, 0},
		{"-eq", "2", "2", true, 0}, {"-eq", "2", "-2", false, 0}, {"-ne", "2", "3", true, 0}, {"-ne", "2", "2", false, 0}, {"-lt", "-3", "2", true, 0}, {"-lt", "2", "2", false, 0}, {"-le", "2", "2", true, 0}, {"-le", "3", "2", false, 0}, {"-gt", "10", "9", true, 0}, {"-gt", "2", "2", false, 0}, {"-ge", "2", "2", true, 0}, {"-ge", "1", "2", false, 0},
		{"-eq", "01", "1", false, api.ErrInval}, {"-eq", "1", "+1", false, api.ErrInval}, {"-eq", "", "", false, api.ErrInval}, {"-eq", "1", "9223372036854775808", false, api.ErrInval}, {"-lt", "a", "b", false, api.ErrInval}, {"==", "a", "a", false, api.ErrInval}, {"", "1", "1", false, api.ErrInval}, {"-EQ", "1", "1", false, api.ErrInval}, {"<", "1", "2", false, api.ErrInval},
	} {
		if got, e := Compare(c.op, c.a, c.b); got != c.want || e != c.err {
			t.Errorf("%q %s %q: %v, %d", c.a, c.op, c.b, got, e)
		}
	}
}

// P31.3
func TestEcho(t *testing.T) {
	for args, want := range map[string]string{"": "\n", "a": "a\n", "a,_,b c": "a  b c\n", "-n": "-n\n", "_": "\n"} {
		if got := Echo(split(args)); got != want {
			t.Errorf("Echo(%q) = %q", args, got)
		}
	}
}

// P31.4
func TestNotNegates(t *testing.T) {
	for _, args := range []string{"a", "_", "-n,a", "-e,p", "a,=,a", "1,-lt,0", "x,-lt,0", "-q,x"} {
		want, e := Eval(split(args), []int{1})
		got, e2 := Eval(append([]string{"!"}, split(args)...), []int{1})
		if e != e2 || e == 0 && got == want || e != 0 && got {
			t.Errorf("%q: %v, %d; %v, %d", args, want, e, got, e2)
		}
	}
}
