package interp

import (
	"reflect"
	"slices"
	"strings"
	"testing"

	"turnkey/api"
	"turnkey/clone"
	"turnkey/node"
	"turnkey/tree"
)

// P32.1
func TestNew(t *testing.T) {
	s := shell(t, all, "", 0).S
	args := []string{"a"}
	x := New(s, args, []string{"B=2", "bad", "A=1", "B=3"}, 50)
	want := api.Inter{
		S: s, Args: []string{"a"}, Zero: "sh", Cwd: "/", Fds: []int{0, 1, 2, -1, -1, -1, -1, -1, -1, -1}, Fuel: 50, Sub: -1,
		Vars: []api.Var{{Name: "A", Value: "1", Export: true}, {Name: "B", Value: "3", Export: true}},
	}
	args[0] = "changed"
	if !Check(x) || !reflect.DeepEqual(x, clone.Inter(want)) {
		t.Errorf("%+v", x)
	}
	for fuel, want := range map[int]int{-5: 0, 0: 0, 100000: 100000, 100001: 100000} {
		if x := New(s, nil, nil, fuel); x.Fuel != want || !Check(x) {
			t.Error(fuel, x.Fuel)
		}
	}
	if Check(New(api.Session{}, nil, nil, 1)) {
		t.Error("a shell without a session is not valid")
	}
}

func invalid(t *testing.T) map[string]api.Inter {
	out := map[string]api.Inter{"zero": {}}
	for name, spoil := range map[string]func(*api.Inter){
		"session": func(x *api.Inter) { x.S.Broker.Kern.Pids = -1 }, "vars": func(x *api.Inter) { x.Vars = []api.Var{{Name: "1"}} }, "nine fds": func(x *api.Inter) { x.Fds = x.Fds[1:] }, "fd": func(x *api.Inter) { x.Fds[9] = 16 }, "fd -3": func(x *api.Inter) { x.Fds[9] = -3 },
		"cwd": func(x *api.Inter) { x.Cwd = "d" }, "no cwd": func(x *api.Inter) { x.Cwd = "" }, "long cwd": func(x *api.Inter) { x.Cwd = "/" + strings.Repeat("d", 256) }, "zero in cwd": func(x *api.Inter) { x.Cwd = "/\x00" }, "status": func(x *api.Inter) { x.Status = 256 }, "negative status": func(x *api.Inter) { x.Status = -1 },
		"funcs": func(x *api.Inter) { x.Funcs = []api.Func{{Name: "b"}, {Name: "a"}} }, "same funcs": func(x *api.Inter) { x.Funcs = []api.Func{{Name: "b"}, {Name: "b"}} }, "func name": func(x *api.Inter) { x.Funcs = []api.Func{{Name: "a-b"}} }, "many funcs": func(x *api.Inter) {
			for i := range 33 {
				x.Funcs = append(x.Funcs, api.Func{Name: "f" + string(rune('A'+i))})
			}
			x.Funcs[26].Name, x.Funcs[27].Name, x.Funcs[28].Name, x.Funcs[29].Name, x.Funcs[30].Name = "f_", "f_a", "f_b", "f_c", "f_d"
			x.Funcs[31].Name, x.Funcs[32].Name = "f_e", "f_f"
		},
		"args": func(x *api.Inter) { x.Args = make([]string, 201) }, "long arg": func(x *api.Inter) { x.Args = []string{strings.Repeat("a", 1025)} }, "out": func(x *api.Inter) { x.Out = make([]byte, 16385) },
		"fuel": func(x *api.Inter) { x.Fuel = -1 }, "much fuel": func(x *api.Inter) { x.Fuel = 100001 }, "leave": func(x *api.Inter) { x.Leave = -1 }, "loops": func(x *api.Inter) { x.Loops = 100001 }, "calls": func(x *api.Inter) { x.Calls = -1 }, "sub": func(x *api.Inter) { x.Sub = -2 }, "sub above": func(x *api.Inter) { x.Sub = 256 },
	} {
		x := shell(t, all, "", 100)
		spoil(&x)
		out[name] = x
	}
	return out
}

// P32.1, P32.4
func TestInvalid(t *testing.T) {
	for name, x := range invalid(t) {
		if Check(x) {
			t.Error(name)
		}
		want := clone.Inter(x)
		want.Stop = api.ErrArg
		if got := Run(x, parse(t, "echo a")); !reflect.DeepEqual(got, want) {
			t.Error(name)
		}
		if got, l := Fields(x, []api.Part{{Kind: api.PartText, Text: "a"}}); !reflect.DeepEqual(got, want) || len(l) != 0 {
			t.Error(name)
		}
	}
	x := shell(t, all, "", 100000, make([]string, 200)...)
	x.Args[0] = strings.Repeat("a", 1024)
	x.Fds[9], x.Fds[8] = 15, -2
	x.Sub, x.Status, x.Out = 255, 255, make([]byte, 16384)
	x.Cwd = "/" + strings.Repeat("d", 255)
	if !Check(x) {
		t.Error("the edges are valid")
	}
}

// P32.1: a shell that is not running does nothing further.
func TestNotRunning(t *testing.T) {
	for name, set := range map[string]func(*api.Inter){
		"stop": func(x *api.Inter) { x.Stop = api.ErrDeep }, "exit": func(x *api.Inter) { x.Exit = true }, "leave": func(x *api.Inter) { x.Leave = 1 }, "back": func(x *api.Inter) { x.Back = true },
	} {
		x := shell(t, all, "", 100)
		x.Status = 7
		set(&x)
		got := do(t, x, "echo a; x=1")
		want := clone.Inter(x)
		if name == "stop" {
			want.Status = 125
		}
		if !reflect.DeepEqual(got, want) {
			t.Error(name)
		}
	}
	if x := try(t, "exit 3; echo a"); x.Status != 3 || out(x) != "" || !x.Exit {
		t.Error(x.Status, out(x))
	}
}

// P32.1: nothing that was given is changed.
func TestArgumentsAreNotChanged(t *testing.T) {
	x := shell(t, all, "in\n", 1000, "A")
	before := clone.Inter(x)
	l := parse(t, "f() { x=1; }; f; set q; cd d; echo a >/f; read y; echo $y")
	copied := clone.Cmds(l)
	got := Run(x, l)
	for i := range l[0].Kids {
		l[0].Kids[i] = api.Cmd{}
	}
	if !reflect.DeepEqual(clone.Inter(x), before) || reflect.DeepEqual(l, copied) {
		t.Error("changed")
	}
	if again := do(t, got, "f; echo $x"); out(again) != "in\n1\n" {
		t.Error(out(again))
	}
}

// P32.2
func TestFuel(t *testing.T) {
	for script, want := range map[string]int{
		":": 1, ": ; :": 3, ":|:": 6, "x=1": 1, "{ :; }": 2, "echo a": 2, "f() { :; }": 1, "f() { :; }; f": 5, "if :; then :; fi": 3, "while false; do :; done": 2, "for i in a b; do :; done": 3, "case a in a) :;; esac": 2, "! :": 2, ": && :": 3, "(:)": 2, "eval :": 2, "x=$(:)": 2, "echo *": 3, ": <note": 3, "pwd; cd d": 5, "test -e /": 2,
	} {
		x := shell(t, all, "", 1000)
		got := do(t, x, script)
		if used := 1000 - got.Fuel; used != want {
			t.Errorf("%q uses %d; want %d", script, used, want)
		}
		short := shell(t, all, "", want-1)
		if got := do(t, short, script); got.Stop != api.ErrFuel || got.Status != 125 || got.Fuel != 0 {
			t.Errorf("%q with too little: %d, %d", script, got.Stop, got.Status)
		}
		enough := shell(t, all, "", want)
		if got := do(t, enough, script); got.Stop != api.OK || got.Fuel != 0 {
			t.Errorf("%q with enough: %d", script, got.Stop)
		}
	}
}

// P32.2
func TestMessages(t *testing.T) {
	expect(t, []result{
		{"nowhere", "|sh: nowhere: not found\n", 127}, {"cd /none", "|sh: /none: error 20\n", 1}, {"{ nowhere; } 2>&1", "sh: nowhere: not found\n", 127}, {"nowhere 2>&-", "", 127}, {"echo $(nowhere 2>&1)", "sh: nowhere: not found\n", 0}, {"nowhere 2>/f; read x </f; echo $x", "sh: nowhere: not found\n", 0},
		{"cd d; cd none; cd /; cd ./d; pwd", "/d\n|sh: none: error 20\n", 0},
	})
}

// P32.3
func TestWriting(t *testing.T) {
	long := strings.Repeat("x", 1000)
	x := do(t, shell(t, all, "", 10000), "x="+long+"; echo $x$x$x | cat")
	if x.Stop != api.ErrLimit {
		t.Error(x.Stop)
	}
	x = do(t, shell(t, all, "", 10000), "x="+long+"; echo $x $x $x")
	if out(x) != long+" "+long+" "+long+"\n" || x.Fuel != 10000-5 {
		t.Error(len(out(x)), x.Fuel)
	}
	expect(t, []result{
		{"echo a >&-", "", 1}, {"echo a >&3", "|sh: 3: error 27\n", 1}, {"echo a >&0", "", 1}, {"pwd >&-", "", 1}, {"echo a 3>&1 >&3", "a\n", 0}, {"x=" + long + "; { echo $x $x; } | wc", "2002\n", 0},
		{"x=" + long + "; set -- $(echo $x $x $x $x $x $x $x $x $x $x $x $x $x $x $x $x; echo $?); echo $#", "17\n", 0}, {"x=" + long + "; set -- $(echo $x $x $x $x $x $x $x $x $x $x $x $x $x $x $x $x $x; echo $?); echo $# $1", "1 1\n", 0},
	})
	// Nobody reads the pipe, so there is nothing to wait for.
	x = do(t, shell(t, all, "", 10000), "x="+long+"; { echo $x; } | { :; }")
	if x.Stop != api.ErrAgain || x.Status != 125 {
		t.Error(x.Stop, x.Status)
	}
}

// P32.4
func TestWords(t *testing.T) {
	expect(t, []result{
		{"echo a'b c'\"d  e\"\\ f", "ab cd  e f\n", 0}, {"echo ~ ~/x ~a '~' a~ \"~\"", "/d /d/x ~a ~ a~ ~\n", 0}, {"x=~/a; echo $x; x='~'; echo $x", "/d/a\n~\n", 0}, {"unset HOME; echo ~ ~/x", "~ ~/x\n", 0}, {"HOME='a b'; echo ~/c; for i in ~; do echo $i.; done", "a b/c\na b.\n", 0}, {"echo ${x:-~/q}", "/d/q\n", 0},
		{"echo $(echo a; echo b) \"$(echo c; echo d)\"", "a b c\nd\n", 0}, {"x=$(echo 'a  b'); echo \"$x\" $x", "a  b a b\n", 0}, {"echo a$(echo b)c", "abc\n", 0}, {"echo \"$(echo; echo)\".", ".\n", 0}, {"x=1; y=$(x=2; echo $x); echo $x$y", "12\n", 0}, {"false; echo $(echo $?)", "0\n", 0}, {"x=$(false); echo $?", "1\n", 0}, {"x=$(exit 7); echo $?; exit 2", "7\n", 2}, {"echo $(exit 4) $?", "4\n", 0}, {"echo $(cd d; pwd); pwd", "/d\n/\n", 0}, {"$()", "", 0}, {"$(false)", "", 1},
		{"echo $((1+2*3)) \"$((1 << 4))\"", "7 16\n", 0}, {"x=5; echo $((x+1)) $(($x*2)) $((y))", "6 10 0\n", 0}, {"IFS=2; echo $((121)) \"$((121))\"", "1 1 121\n", 0}, {"echo $((1/0)); echo b", "|sh: arithmetic: error 32\n", 1}, {"echo $((1+)); echo b", "|sh: arithmetic: error 50\n", 1}, {"(echo $((1/0))); echo $?", "1\n|sh: arithmetic: error 32\n", 0},
		{"echo $1.$2.$3.$#.$0.$?", "A.B C..2.sh.0\n", 0}, {"for i in $@; do echo $i.; done", "A.\nB.\nC.\n", 0}, {"for i in \"$@\"; do echo $i.; done", "A.\nB C.\n", 0}, {"for i in $*; do echo $i.; done", "A.\nB.\nC.\n", 0}, {"for i in \"$*\"; do echo $i.; done", "A B C.\n", 0}, {"for i in x\"$@\"y; do echo $i.; done", "xA.\nB Cy.\n", 0}, {"set --; for i in \"$@\" $@ $*; do echo $i.; done; for i in \"$*\"; do echo $i.; done", ".\n", 0}, {"set a '' b; for i in $@; do echo $i.; done", "a.\n.\nb.\n", 0},
		{"echo \"$x\".$x.", "..\n", 0}, {"x='a b  c'; echo $x \"$x\"", "a b c a b  c\n", 0}, {"IFS=:; x='a:b::c d'; for i in $x; do echo $i.; done", "a.\nb.\n.\nc d.\n", 0}, {"IFS=; x='a b'; for i in $x; do echo $i.; done", "a b.\n", 0}, {"x='*.c'; echo $x \"$x\"", "a.c b.c *.c\n", 0}, {"x='$y'; echo $x", "$y\n", 0},
	})
}

// P32.4
func TestParameters(t *testing.T) {
	expect(t, []result{
		{"x=ab\xc3\xa9; echo ${#x} ${#y} ${#} ${##} ${#@} ${#*} ${#1} ${#?}", "3 0 2 1 2 2 1 1\n", 0},
		{"x=; echo ${x-a}.${x:-b}.${y-c}.${y:-d}.${1-e}.${3-f}", ".b.c.d.A.f\n", 0}, {"x=; echo ${x+a}.${x:+b}.${y+c}.${1+d}.${1:+e}", "a...d.e\n", 0}, {"echo ${x=a}$x ${y:=b c} \"$y\"; x=; echo ${x=d}.${x:=e}$x", "aa b c b c\n.ee\n", 0}, {"x=1; echo ${x=$(echo no >&2)}${x-$(echo no >&2)}${y+$(echo no >&2)}", "11\n", 0},
		{"echo ${x?}; echo no", "|sh: x: not set\n", 1}, {"echo ${x:?my text}; echo no", "|sh: x: my text\n", 1}, {"x=; echo ${x?a}.; echo ${x:?a}", ".\n|sh: x: a\n", 1}, {"echo ${3?none}", "|sh: 3: none\n", 1}, {"(echo ${x?}); echo $?", "1\n|sh: x: not set\n", 0}, {"echo ${1=x}${9=x}; echo no", "|sh: 9: error 2\n", 1}, {"${?=x}", "|sh: 0: not found\n", 127}, {"y=$(true); echo ${x=$((1/0))}; echo no", "|sh: arithmetic: error 32\n", 1},
		{"x=a/b/c; echo ${x%/*} ${x%%/*} ${x#*/} ${x##*/} ${x%x} ${x#\"*\"}", "a/b a b/c c a/b/c a/b/c\n", 0}, {"x='a*b'; y='*'; echo ${x%\"$y\"b} ${x%%$y}.", "a .\n", 0},
		{"for i in ${x-a b} \"${x-c d}\" ${x-'e f'} \"${x-}\" ${x-}; do echo $i.; done", "a.\nb.\nc d.\ne f.\n.\n", 0}, {"for i in ${x-\"$@\"} \"${x-$@}\"; do echo $i.; done", "A.\nB C.\nA.\nB C.\n", 0}, {"for i in ${@:-x} \"${@+y z}\"; do echo $i.; done", "A.\nB.\nC.\ny z.\n", 0}, {"x='a b'; for i in ${x-c} ${x+$x} \"${x+$x}\" ${x+q\"$x\"}; do echo $i.; done", "a.\nb.\na.\nb.\na b.\nqa b.\n", 0},
	})
}

// P32.4
func TestFields(t *testing.T) {
	x := shell(t, all, "", 1000, "A", "B C")
	for raw, want := range map[string][]string{"a": {"a"}, "$1$2": {"AB", "C"}, "\"$@\"": {"A", "B C"}, "*.c": {"a.c", "b.c"}, "''": {""}, "$x": nil, "$(echo a b)": {"a", "b"}, "": nil} {
		w, _ := tree.Word(raw)
		got, l := Fields(x, w)
		if !slices.Equal(l, want) || !Check(got) || got.Stop != api.OK {
			t.Errorf("%q: %q, %d", raw, l, got.Stop)
		}
	}
	w, _ := tree.Word("a$((1/0))")
	if got, l := Fields(x, w); len(l) != 0 || !got.Exit || got.Status != 1 {
		t.Error(l, got.Exit, got.Status)
	}
	long := strings.Repeat("x", 1024)
	for raw, want := range map[string]api.Errno{long: api.OK, long + "x": api.ErrLimit, "\"" + long + "\" x": api.ErrLimit} {
		w, _ := tree.Word(raw)
		if got, _ := Fields(x, w); got.Stop != want {
			t.Error(len(raw), got.Stop)
		}
	}
	// 200 fields are the most, of one word or of several.
	for n, want := range map[int]api.Errno{100: api.OK, 101: api.ErrLimit} {
		got := do(t, shell(t, all, "", 10000, strings.Repeat("x ", n)), ": $1 "+strings.Repeat("y ", 99))
		if got.Stop != want {
			t.Error(n, got.Stop)
		}
	}
	w, _ = tree.Word("$1")
	if got, l := Fields(shell(t, all, "", 10000, strings.Repeat("x ", 200)), w); got.Stop != api.OK || len(l) != 200 {
		t.Error(got.Stop, len(l))
	}
	if got, l := Fields(shell(t, all, "", 10000, strings.Repeat("x ", 201)), w); got.Stop != api.ErrLimit || len(l) != 0 {
		t.Error(got.Stop, len(l))
	}
}

// P32.5
func TestPathnames(t *testing.T) {
	expect(t, []result{
		{"echo *.c", "a.c b.c\n", 0}, {"echo *", "a.c b.c bin d l note\n", 0}, {"echo .*", ".h\n", 0}, {"echo /b*/t*", "/bin/text /bin/tr /bin/true\n", 0}, {"echo [ab].c ?.c x*", "a.c b.c a.c b.c x*\n", 0}, {"echo \"*\" '*' \\*", "* * *\n", 0}, {"cd bin; echo t* ../*.c ./y*", "text tr true ../a.c ../b.c ./yes\n", 0}, {"echo */echo */none", "bin/echo */none\n", 0}, {"echo l/* l*/.", "l/* l/.\n", 0}, {"echo [n]ote/", "note\n", 0}, {"echo /*/", "/a.c /b.c /bin /d /l /note\n", 0}, {"echo [a/b]", "[a/b]\n", 0}, {"x=*.c; echo $x \"$x\"", "a.c b.c *.c\n", 0}, {"echo '[a]'*", "[a]*\n", 0}, {"echo none/*", "none/*\n", 0}, {"echo [.]h", "[.]h\n", 0},
	})
	x := do(t, shell(t, "deny readdir /bin\ndeny stat /note\n"+all, "", 1000), "echo bin/* [n]ote/. /*/echo [b]in/cat")
	if out(x) != "bin/* [n]ote/. /bin/echo bin/cat\n" {
		t.Error(out(x))
	}
	if got := lines(x); !slices.Contains(got, "0 deny readdir /bin") {
		t.Error(got)
	}
	many := shell(t, all, "", 10000)
	for i := range 121 {
		many.S.Broker.Kern.Fs.Nodes[0].Names = append(many.S.Broker.Kern.Fs.Nodes[0].Names, api.Name{Name: "z" + string(rune('A'+i/26)) + string(rune('a'+i%26)), Node: 2})
		many.S.Broker.Kern.Fs.Nodes[2].Links++
	}
	if !node.Check(many.S.Broker.Kern.Fs) {
		t.Fatal("file system")
	}
	if x := do(t, many, "echo z*"); out(x) != "z*\n" {
		t.Error("more than 120 names are not read", out(x))
	}
	if x := do(t, shell(t, all, "", 10000), "cd bin; echo */ ../*/../bin/*/../../*"); x.Stop != api.OK {
		t.Error(x.Stop)
	}
	if x := do(t, shell(t, all, "", 10000), "echo *"+strings.Repeat("/../*", 4)); x.Stop != api.ErrLimit {
		t.Error(x.Stop)
	}
}
