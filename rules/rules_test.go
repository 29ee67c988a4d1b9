package rules

import (
	"fmt"
	"reflect"
	"slices"
	"strings"
	"testing"

	"turnkey/api"
)

var all = []int{1, 6, 7, 9, 10, 11, 12, 13, 14}

func repeat(n int, line string) string { return strings.Repeat(line+"\n", n) }

// P12.1
func TestOps(t *testing.T) {
	for s, want := range map[string][]int{
		"*": all, "open": {1}, "open,stat": {1, 10}, "write,spawn,rename": {6, 7, 14}, "open,write,spawn,chdir,stat,readdir,unlink,mkdir,rename": all,
	} {
		if got, ok := Ops(s); !ok || !slices.Equal(got, want) {
			t.Errorf("Ops(%q) = %v, %v", s, got, ok)
		}
	}
	for _, s := range []string{"", ",", "open,", ",open", "fly", "stat,open", "open,open", "open,*", "*,open", "close", "Open", "open stat", "open,,stat"} {
		if got, ok := Ops(s); ok || len(got) != 0 {
			t.Errorf("Ops(%q) = %v, %v", s, got, ok)
		}
	}
	got, _ := Ops("*")
	got[0] = 99
	if again, _ := Ops("*"); again[0] != 1 {
		t.Error("a result is not the caller's own")
	}
}

// P12.1, P12.2
func TestParse(t *testing.T) {
	open := []int{api.OpOpen}
	spawn := []int{api.OpSpawn}
	sixteen := strings.Fields(strings.Repeat("a ", 16))
	for text, want := range map[string]api.Policy{
		"":                           {Root: "/"},
		"\n \t\n# comment\n":         {Root: "/"},
		"root /home":                 {Root: "/home"},
		"\n#x\n root\t/home\n":       {Root: "/home"},
		"allow open /a":              {Root: "/", Rules: []api.Rule{{Allow: true, Ops: open, Path: "/a"}}},
		"deny * /** # all":           {Root: "/", Rules: []api.Rule{{Ops: all, Path: "/**"}}},
		"allow open /a#b #c\n":       {Root: "/", Rules: []api.Rule{{Allow: true, Ops: open, Path: "/a#b"}}},
		"allow open /a\r\n":          {Root: "/", Rules: []api.Rule{{Allow: true, Ops: open, Path: "/a\r"}}},
		"allow spawn /a args":        {Root: "/", Rules: []api.Rule{{Allow: true, Ops: spawn, Path: "/a", With: true}}},
		"allow spawn /a args -l *":   {Root: "/", Rules: []api.Rule{{Allow: true, Ops: spawn, Path: "/a", With: true, Args: []string{"-l", "*"}}}},
		"deny spawn /a args ...":     {Root: "/", Rules: []api.Rule{{Ops: spawn, Path: "/a", With: true, More: true}}},
		"deny spawn /a args ... ...": {Root: "/", Rules: []api.Rule{{Ops: spawn, Path: "/a", With: true, Args: []string{"..."}, More: true}}},
		"deny spawn /a args ... x":   {Root: "/", Rules: []api.Rule{{Ops: spawn, Path: "/a", With: true, Args: []string{"...", "x"}}}},
		"deny spawn /a args # ...":   {Root: "/", Rules: []api.Rule{{Ops: spawn, Path: "/a", With: true}}},
		"deny spawn /a args " + strings.Join(sixteen, " ") + " ...": {Root: "/", Rules: []api.Rule{{Ops: spawn, Path: "/a", With: true, Args: sixteen, More: true}}},
		"env keep A* B\nenv drop ?\nenv set A=b=c\nenv set X=":      {Root: "/", Env: []api.EnvRule{{Kind: 1, Pattern: "A*"}, {Kind: 1, Pattern: "B"}, {Kind: 2, Pattern: "?"}, {Kind: 3, Pattern: "A", Value: "b=c"}, {Kind: 3, Pattern: "X"}}},
	} {
		if got, line := Parse(text); line != 0 || !sameShape(got, want) {
			t.Errorf("Parse(%q) = %+v, %d", text, got, line)
		}
	}
}

func sameShape(a, b api.Policy) bool {
	return fmt.Sprintf("%q", fmt.Sprint(a)) == fmt.Sprintf("%q", fmt.Sprint(b)) && equal(a, b)
}

// P12.2
func TestParseNamesTheFirstWrongLine(t *testing.T) {
	long := strings.Repeat("x", 257)
	for text, want := range map[string]int{
		"allow fly /": 1, "\n\nx": 3, "allow open /a\ndeny\nbad": 2, "root": 1, "root / /": 1, "root a": 1, "root /a/": 1, "root /a/..": 1, "root //": 1, "root /" + long: 1, "root /" + strings.Repeat("n", 33): 1, "root /\x00": 1,
		"root /\nroot /": 2, "allow open /\nroot /": 2, "#c\nenv keep A\nroot /": 3, "allow": 1, "allow open": 1, "allow open a": 1, "allow open /" + long: 1, "allow open /" + strings.Repeat("x", 255): 0,
		"allow open /a args": 1, "allow open /a b": 1, "allow open,spawn /a args": 1, "allow * /a args x": 1, "allow spawn /a arg x": 1, "allow spawn /a ...": 1, "allow spawn /a args " + long: 1, "allow spawn /a args " + long[1:]: 0,
		"allow spawn /a args " + strings.Repeat("a ", 17): 1, "allow spawn /a args " + strings.Repeat("a ", 17) + "...": 1, "Allow open /": 1,
		"env": 1, "env keep": 1, "env set": 1, "env set A": 1, "env set A=1 B=2": 1, "env set 1=2": 1, "env set =2": 1, "env keep " + long: 1, "env hold A": 1, "env set A=\x00": 1, "env keep #": 1,
		repeat(64, "allow open /"): 0, repeat(65, "allow open /"): 65, repeat(64, "env keep A"): 0, repeat(64, "env keep A") + "env set B=1": 65, "env keep" + strings.Repeat(" A", 65): 1,
		repeat(64, "allow open /") + repeat(64, "env keep A"): 0, repeat(65, "allow open /") + "bad": 65,
		strings.Repeat("\n", 8192): 0, strings.Repeat("\n", 8193): 1, strings.Repeat("\n", 8191) + "x": 8192,
	} {
		got, line := Parse(text)
		if line != want || line != 0 && !reflect.DeepEqual(got, api.Policy{}) {
			t.Errorf("Parse(%.60q) = %+v, %d; want %d", text, got, line, want)
		}
	}
}

func invalid() []api.Policy {
	rule := func(r api.Rule) api.Policy { return api.Policy{Root: "/", Rules: []api.Rule{r}} }
	set := func(r api.EnvRule) api.Policy { return api.Policy{Root: "/", Env: []api.EnvRule{r}} }
	spawn := []int{api.OpSpawn}
	return []api.Policy{
		{}, {Root: "a"}, {Root: "/a/"}, {Root: "/ "}, {Root: "/\n"}, {Root: "/" + strings.Repeat("n", 33)},
		rule(api.Rule{}), rule(api.Rule{Path: "/"}), rule(api.Rule{Ops: []int{2}, Path: "/"}), rule(api.Rule{Ops: []int{10, 1}, Path: "/"}), rule(api.Rule{Ops: []int{1, 1}, Path: "/"}), rule(api.Rule{Ops: []int{-1}, Path: "/"}), rule(api.Rule{Ops: []int{1 << 40}, Path: "/"}),
		rule(api.Rule{Ops: spawn}), rule(api.Rule{Ops: spawn, Path: "a"}), rule(api.Rule{Ops: spawn, Path: "/a b"}), rule(api.Rule{Ops: spawn, Path: "/\t"}), rule(api.Rule{Ops: spawn, Path: "/\nallow open /"}), rule(api.Rule{Ops: spawn, Path: "/" + strings.Repeat("x", 256)}),
		rule(api.Rule{Ops: spawn, Path: "/", Args: []string{"a"}}), rule(api.Rule{Ops: spawn, Path: "/", More: true}), rule(api.Rule{Ops: []int{1}, Path: "/", With: true}), rule(api.Rule{Ops: spawn, Path: "/", With: true, Args: []string{""}}), rule(api.Rule{Ops: spawn, Path: "/", With: true, Args: []string{"#a"}}),
		rule(api.Rule{Ops: spawn, Path: "/", With: true, Args: []string{"..."}}), rule(api.Rule{Ops: spawn, Path: "/", With: true, Args: make([]string, 17)}), rule(api.Rule{Ops: spawn, Path: "/", With: true, Args: []string{strings.Repeat("x", 257)}}),
		set(api.EnvRule{}), set(api.EnvRule{Kind: 1}), set(api.EnvRule{Kind: 1, Pattern: "a b"}), set(api.EnvRule{Kind: 1, Pattern: "#"}), set(api.EnvRule{Kind: 2, Pattern: "a", Value: "b"}), set(api.EnvRule{Kind: 3, Pattern: "A", Value: "b c"}), set(api.EnvRule{Kind: 4, Pattern: "A"}), set(api.EnvRule{Kind: 3, Pattern: "A=", Value: "b"}),
		{Root: "/", Rules: slices.Repeat([]api.Rule{{Ops: spawn, Path: "/"}}, 65)}, {Root: "/", Env: slices.Repeat([]api.EnvRule{{Kind: 1, Pattern: "a"}}, 65)},
	}
}

// P12.3
func TestCheckAndPrint(t *testing.T) {
	for _, p := range invalid() {
		if Check(p) || Print(p) != "" {
			t.Errorf("%+v is not valid", p)
		}
	}
	p, line := Parse("root /h\nallow  open,write,spawn,chdir,stat,readdir,unlink,mkdir,rename /**\n\ndeny spawn /x args a ... ...\nallow spawn /y args\ndeny open,stat /z # c\nenv keep A B\nenv set C=d\nenv drop *")
	want := "root /h\nallow * /**\ndeny spawn /x args a ... ...\nallow spawn /y args\ndeny open,stat /z\nenv keep A\nenv keep B\nenv set C=d\nenv drop *\n"
	if line != 0 || !Check(p) || Print(p) != want {
		t.Errorf("%q", Print(p))
	}
	if Print(api.Policy{Root: "/"}) != "root /\n" {
		t.Error(Print(api.Policy{Root: "/"}))
	}
}

// P12.3: what is longer than a text may be is still a policy.
func TestLongPolicy(t *testing.T) {
	path := "/" + strings.Repeat("x", 255)
	p := api.Policy{Root: "/", Rules: slices.Repeat([]api.Rule{{Ops: []int{1}, Path: path}}, 64)}
	if !Check(p) || len(Print(p)) <= api.MaxPolicy {
		t.Error(Check(p), len(Print(p)))
	}
}

// P12.4
func TestRoundTrip(t *testing.T) {
	for _, text := range []string{"", "root /a\nallow * /**", "deny spawn /[!a]* args ? ... x ...\nenv set A==\nenv keep ... args", "allow spawn,stat /\xff"} {
		p, line := Parse(text)
		if line != 0 {
			t.Fatal(text, line)
		}
		back, line := Parse(Print(p))
		if line != 0 || !reflect.DeepEqual(back, p) {
			t.Errorf("%q: %+v, %+v, %d", text, p, back, line)
		}
	}
}
