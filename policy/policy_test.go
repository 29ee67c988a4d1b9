package policy

import (
	"bytes"
	"crypto/sha256"
	"reflect"
	"slices"
	"strings"
	"testing"

	"turnkey/api"
	"turnkey/rules"
)

func parsed(t *testing.T, text string) api.Policy {
	t.Helper()
	p, line := rules.Parse(text)
	if line != 0 {
		t.Fatal(line)
	}
	return p
}

// P13.1
func TestWords(t *testing.T) {
	for _, c := range []struct {
		r    api.Rule
		args []string
		want bool
	}{
		{api.Rule{}, nil, true}, {api.Rule{}, []string{"a"}, true}, {api.Rule{Args: []string{"x"}}, []string{"a"}, true},
		{api.Rule{With: true}, nil, true}, {api.Rule{With: true}, []string{"a"}, false}, {api.Rule{With: true, More: true}, []string{"a", "b"}, true},
		{api.Rule{With: true, Args: []string{"a*", "?"}}, []string{"ab", "c"}, true}, {api.Rule{With: true, Args: []string{"a*", "?"}}, []string{"ab"}, false}, {api.Rule{With: true, Args: []string{"a*", "?"}}, []string{"ab", "cd"}, false}, {api.Rule{With: true, Args: []string{"a*"}}, []string{"ab", "c"}, false},
		{api.Rule{With: true, More: true, Args: []string{"a*"}}, []string{"ab", "c"}, true}, {api.Rule{With: true, More: true, Args: []string{"a*"}}, nil, false}, {api.Rule{With: true, More: true, Args: []string{"a*"}}, []string{"b", "ab"}, false},
		{api.Rule{With: true, Args: []string{"*"}}, []string{strings.Repeat("a", 1025)}, false},
	} {
		if got := Words(c.r, c.args); got != c.want {
			t.Errorf("Words(%+v, %q) = %v", c.r, c.args, got)
		}
	}
}

// P13.2
func TestDecide(t *testing.T) {
	p := parsed(t, "deny write /a\nallow spawn /bin/* args -l\ndeny spawn /bin/x\nallow write,stat /**\nallow spawn /bin/*")
	for _, c := range []struct {
		op    int
		path  string
		args  []string
		allow bool
		index int
	}{
		{api.OpWrite, "/a", nil, false, 0}, {api.OpWrite, "/b", nil, true, 3}, {api.OpStat, "/a", nil, true, 3}, {api.OpStat, "/", nil, true, 3}, {api.OpOpen, "/a", nil, false, -1},
		{api.OpSpawn, "/bin/x", []string{"-l"}, true, 1}, {api.OpSpawn, "/bin/x", []string{"-m"}, false, 2}, {api.OpSpawn, "/bin/y", []string{"-m"}, true, 4}, {api.OpSpawn, "/x", nil, false, -1},
		{api.OpWrite, "a", nil, false, -1}, {api.OpWrite, "", nil, false, -1}, {api.OpWrite, "/b/", nil, false, -1}, {api.OpWrite, "/b/../c", nil, false, -1}, {api.OpWrite, "/./b", nil, false, -1}, {api.OpWrite, "//b", nil, false, -1},
		{api.OpWrite, "/" + strings.Repeat("x", 1023), nil, true, 3}, {api.OpWrite, "/" + strings.Repeat("x", 1024), nil, false, -1},
		{api.OpClose, "/b", nil, false, -1}, {0, "/b", nil, false, -1}, {99, "/b", nil, false, -1}, {-1, "/b", nil, false, -1},
	} {
		if allow, index := Decide(p, c.op, c.path, c.args); allow != c.allow || index != c.index {
			t.Errorf("Decide(%d, %.30q, %q) = %v, %d", c.op, c.path, c.args, allow, index)
		}
	}
	inside := parsed(t, "root /h\nallow * /**")
	for path, want := range map[string]bool{"/h": true, "/h/a": true, "/": false, "/ha": false, "/a": false} {
		if allow, index := Decide(inside, api.OpStat, path, nil); allow != want || (index == 0) != want {
			t.Errorf("%q: %v, %d", path, allow, index)
		}
	}
	for _, bad := range []api.Policy{{}, {Root: "/", Rules: []api.Rule{{Allow: true, Ops: []int{10}, Path: "/**"}, {}}}, {Root: "x"}} {
		if allow, index := Decide(bad, api.OpStat, "/a", nil); allow || index != -1 {
			t.Errorf("%+v: %v, %d", bad, allow, index)
		}
		if Permit(bad, api.OpStat, "/a", "", nil) {
			t.Errorf("%+v permits", bad)
		}
	}
}

// P13.3
func TestPermit(t *testing.T) {
	p := parsed(t, "root /\nallow rename /a/*\nallow stat /**\nallow spawn /x args k")
	for _, c := range []struct {
		op          int
		path, path2 string
		args        []string
		want        bool
	}{
		{api.OpRename, "/a/x", "/a/y", nil, true}, {api.OpRename, "/a/x", "/b", nil, false}, {api.OpRename, "/b", "/a/x", nil, false}, {api.OpRename, "/a/x", "", nil, false}, {api.OpRename, "/a/x", "/a/../a/y", nil, false},
		{api.OpStat, "/q", "", nil, true}, {api.OpStat, "/q", "/q", nil, false}, {api.OpOpen, "/q", "", nil, false}, {api.OpSpawn, "/x", "", []string{"k"}, true}, {api.OpSpawn, "/x", "", nil, false}, {api.OpClose, "/q", "", nil, false},
	} {
		if got := Permit(p, c.op, c.path, c.path2, c.args); got != c.want {
			t.Errorf("Permit(%d, %q, %q, %q) = %v", c.op, c.path, c.path2, c.args, got)
		}
	}
}

// P13.3
func TestSettingsAndDeny(t *testing.T) {
	p := parsed(t, "env keep *\nenv drop LD_*\nenv set Z=4")
	if got := Settings(p, []string{"A=1", "LD_X=2", "Z=3"}); !slices.Equal(got, []string{"A=1", "Z=4"}) {
		t.Error(got)
	}
	if got := Settings(p, []string{"B=1", "A=1"}); len(got) != 0 {
		t.Error(got)
	}
	p.Root = ""
	if got := Settings(p, []string{"A=1"}); len(got) != 0 {
		t.Error(got)
	}
	if !reflect.DeepEqual(Deny(), api.Policy{Root: "/"}) || !rules.Check(Deny()) || Permit(Deny(), api.OpStat, "/", "", nil) {
		t.Error(Deny())
	}
}

// P13.4
func TestDigest(t *testing.T) {
	want := sha256.Sum256([]byte("\x00\x02\x00\x01a\x00\x00\x00\x01\x00\x03E=1"))
	if !bytes.Equal(Digest([]string{"a", ""}, []string{"E=1"}), want[:]) {
		t.Error("digest")
	}
	want = sha256.Sum256([]byte{0, 0, 0, 0})
	if !bytes.Equal(Digest(nil, nil), want[:]) {
		t.Error("digest of nothing")
	}
	long := strings.Repeat("x", 65537)
	want = sha256.Sum256([]byte("\x00\x01\x00\x01" + long + "\x00\x00"))
	if !bytes.Equal(Digest([]string{long}, nil), want[:]) {
		t.Error("digest of a long argument")
	}
	want = sha256.Sum256(append([]byte{0, 2}, make([]byte, 2*65538+2)...))
	if !bytes.Equal(Digest(make([]string, 65538), nil), want[:]) {
		t.Error("digest of many arguments")
	}
}

// P13.5
func TestConsequences(t *testing.T) {
	paths := []string{"/", "/a", "/a/b", "/h", "/h/a", "/h/x/y"}
	texts := []string{"allow stat /h/*", "deny stat /h/a", "allow * /**", "deny * /a/**"}
	for _, first := range texts {
		for _, second := range texts {
			for _, path := range paths {
				one, both := parsed(t, "root /h\n"+first), parsed(t, "root /h\n"+first+"\n"+second)
				allow, index := Decide(one, api.OpStat, path, nil)
				allow2, index2 := Decide(both, api.OpStat, path, nil)
				if index >= 0 && (allow2 != allow || index2 != index) {
					t.Errorf("%q changes what %q decides for %q", second, first, path)
				}
				if allow2 && !strings.HasPrefix(path, "/h") || allow && index < 0 {
					t.Errorf("%q is permitted", path)
				}
			}
		}
	}
}
