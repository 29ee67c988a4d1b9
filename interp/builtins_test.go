package interp

import (
	"strings"
	"testing"

	"turnkey/api"
	"turnkey/session"
)

// P32.8
func TestBuiltin(t *testing.T) {
	for _, name := range strings.Fields(": break continue eval exit export return set shift unset") {
		if Builtin(name) != 2 {
			t.Error(name)
		}
	}
	for _, name := range strings.Fields("cd echo false pwd read test true [") {
		if Builtin(name) != 1 {
			t.Error(name)
		}
	}
	for _, name := range []string{"", "cat", "sh", "exec", ".", "]", "Echo", "if"} {
		if Builtin(name) != 0 {
			t.Error(name)
		}
	}
}

// P32.8
func TestAssignments(t *testing.T) {
	expect(t, []result{
		{"x=1 y=$x; echo $x$y", "11\n", 0}, {"x=$(false)", "", 1}, {"x=$(false) y=$(true)", "", 0}, {"false; x=1", "", 0}, {"x=a\\ b; echo \"$x\"", "a b\n", 0}, {"x='*'; echo \"$x\"", "*\n", 0}, {"x=*; echo \"$x\"", "*\n", 0}, {"x=$1$2; echo \"$x\"", "AB C\n", 0}, {"x=\"$@\"; echo \"$x\"", "AB C\n", 0}, {"x=1 >/f; test -e /f; echo $x$?", "10\n", 0}, {"x=1 <none; echo $?.$x", "1.\n|sh: none: error 20\n", 0}, {"x=$(false) >$(echo /f); echo $?", "1\n", 0}, {">$(false); echo $?", "1\n|sh: : error 23\n", 0},
		{"x=1 echo a; echo .$x", "a\n.\n", 0}, {"x=0; x=1 true; echo $x", "0\n", 0}, {"x=1 :; echo $x", "1\n", 0}, {"x=1 eval 'echo $x'; echo $x", "1\n1\n", 0}, {"f() { echo $x; x=3; y=4; }; x=1; x=2 f; echo $x$y", "2\n14\n", 0}, {"x=1 env; echo .$x", "HOME=/d\nPATH=/bin\nx=1\n.\n", 0}, {"x=1; export x; x=2 env; env", "HOME=/d\nPATH=/bin\nx=2\nHOME=/d\nPATH=/bin\nx=1\n", 0}, {"x=5; x=1 env; env", "HOME=/d\nPATH=/bin\nx=1\nHOME=/d\nPATH=/bin\n", 0}, {"PATH=/ HOME=q env", "|sh: env: not found\n", 127}, {"x=1 y=$x env", "HOME=/d\nPATH=/bin\nx=1\ny=1\n", 0}, {"x=1 nowhere; echo .$x", ".\n|sh: nowhere: not found\n", 0},
		{"x=$((1/0)) echo a; echo b", "|sh: arithmetic: error 32\n", 1}, {"x=1 $z; echo $x", "1\n", 0}, {"x=1 y=2 x=3 true; echo .$x$y", ".\n", 0}, {"HOME=/x cd; pwd; echo $HOME", "/\n/d\n|sh: /x: error 20\n", 0},
	})
	long := strings.Repeat("x", 1024)
	for _, c := range []struct{ script, out string }{
		{"y=x$1 x=2; echo $?.$x", "1.\n|sh: y: error 2\n"}, {"x=2 y=x$1; echo $?.$x", "1.2\n|sh: y: error 2\n"}, {"x=2 y=x$1 echo no; echo $?.$x", "1.\n|sh: y: error 2\n"}, {"y=x$1 export x; echo $?.$x", "1.\n|sh: y: error 2\n"}, {"x=1; x=2 y=x$1 true; echo $?$x", "11\n|sh: y: error 2\n"}, {"y=$1; echo $?${#y}", "01024\n"},
	} {
		if x := do(t, shell(t, all, "", 1000, long), c.script); out(x) != c.out {
			t.Errorf("%q: %q", c.script, out(x))
		}
	}
	var script strings.Builder
	for i := range 61 {
		script.WriteString("v" + string(rune('A'+i%26)) + string(rune('a'+i/26)) + "=1;")
	}
	x := try(t, script.String()+"a=1; b=2; echo $?; c=3 echo no; echo $a$b$c; a=4 true; echo $a")
	if out(x) != "1\n1\n1\n|sh: b: error 4\nsh: c: error 4\n" {
		t.Error(out(x))
	}
}

// P32.8
func TestPrecedence(t *testing.T) {
	expect(t, []result{
		{"echo() { pwd; }; echo a", "/\n", 0}, {"export() { pwd; }; export x; true", "", 0}, {"cat() { pwd; }; cat; /bin/cat <note", "/\none two\nthree\n", 0}, {"true() { return 3; }; true", "", 3}, {"x=echo; $x a", "a\n", 0}, {"e'ch'o a", "a\n", 0}, {"x='echo a b'; $x", "a b\n", 0}, {"\"echo a\"", "|sh: echo a: not found\n", 127},
	})
}

// P32.9
func TestOutputBuiltins(t *testing.T) {
	expect(t, []result{
		{"false; :", "", 0}, {"false; : a b", "", 0}, {"true x", "", 0}, {"false x", "", 1}, {"echo", "\n", 0}, {"echo a  b", "a b\n", 0}, {"echo -n a '' b", "-n a  b\n", 0}, {"pwd x; cd d; pwd", "/\n/d\n", 0},
		{"cd d; pwd; cd ..; pwd; cd ./d/./..; pwd", "/d\n/\n/\n", 0}, {"cd; pwd; echo $PWD", "/d\n/d\n", 0}, {"unset HOME; cd d; cd; pwd", "/\n", 0}, {"cd l; pwd; echo $PWD; test -e ../note; echo $?", "/l\n/l\n0\n", 0}, {"cd d e; pwd", "/d\n", 0}, {"cd ''; pwd", "/\n", 0}, {"cd note", "|sh: note: error 22\n", 1}, {"HOME=none; cd", "|sh: none: error 20\n", 1}, {"cd d; cd /none; pwd", "/d\n|sh: /none: error 20\n", 0}, {"cd bin; ./echo a; cd ..; bin/echo b", "a\nb\n", 0}, {"cd d; HOME=..; cd; pwd", "/\n", 0},
	})
}

// P32.9
func TestVariables(t *testing.T) {
	expect(t, []result{
		{"x=1; export x y=2 z; env", "HOME=/d\nPATH=/bin\nx=1\ny=2\nz=\n", 0}, {"export", "", 0}, {"export y=a=b; echo $y", "a=b\n", 0}, {"export 1 x=2 a-b=3; echo $?; env", "1\nHOME=/d\nPATH=/bin\nx=2\n|sh: 1: error 2\nsh: a-b=3: error 2\n", 0}, {"export =x", "|sh: =x: error 2\n", 1}, {"export 'x=a b'; echo \"$x\"", "a b\n", 0},
		{"x=1; f() { :; }; unset x f y 1; echo .$x; f", ".\n|sh: f: not found\n", 127}, {"unset PATH; cat", "|sh: cat: not found\n", 127}, {"unset; echo $?", "0\n", 0}, {"x() { echo f; }; x=1; unset x; x", "|sh: x: not found\n", 127},
		{"set x 'y z'; echo $2; echo $#", "y z\n2\n", 0}, {"set; echo $#", "2\n", 0}, {"set --; echo $#", "0\n", 0}, {"set -- -- a; echo $*", "-- a\n", 0}, {"set a --; echo $*", "a --\n", 0}, {"set -x; echo $1", "-x\n", 0},
		{"shift; echo $*; shift; echo $#; shift; echo $?", "B C\n0\n1\n", 0}, {"shift 2; echo $#", "0\n", 0}, {"shift 3; echo $?$#", "12\n", 0}, {"shift 0; echo $#", "2\n", 0}, {"shift -1; echo $?$#", "12\n", 0}, {"shift x; echo $?$#", "12\n", 0}, {"shift 01; echo $?$#", "12\n", 0}, {"shift 1 9; echo $#", "1\n", 0}, {"f() { shift; echo $*; }; f a b; echo $*", "b\nA B C\n", 0}, {"f() { set q; }; f; echo $1", "A\n", 0},
	})
}

// P32.9
func TestTestBuiltin(t *testing.T) {
	expect(t, []result{
		{"test", "", 1}, {"test a", "", 0}, {"[ a = a ]", "", 0}, {"[ a = b ]", "", 1}, {"[", "|sh: [: error 32\n", 2}, {"[ a", "|sh: [: error 32\n", 2}, {"[ ]", "", 1}, {"test a b", "|sh: test: error 32\n", 2}, {"[ a b ]", "|sh: [: error 32\n", 2}, {"test 1 -lt x", "|sh: test: error 32\n", 2}, {"[ ] ]", "", 0},
		{"test -e note; echo $?; test -f /note; echo $?; test -d note; echo $?", "0\n0\n1\n", 0}, {"test -d d && test -d /l && test -h l; echo $?", "0\n", 0}, {"test -h d; echo $?; test -h note; echo $?; test -e none; echo $?", "1\n1\n1\n", 0}, {"test ! -e none", "", 0}, {"[ ! -d d ]", "", 1}, {"cd d; test -f ../note", "", 0}, {"test -e ''", "", 0}, {"test ! a = b; echo $?", "0\n", 0}, {"test -e", "", 0},
	})
	if x := do(t, shell(t, "deny stat /note\n"+all, "", 100), "test -e note; echo $?; test -e d; echo $?"); out(x) != "1\n0\n" {
		t.Error(out(x))
	}
}

// P32.9
func TestRead(t *testing.T) {
	expect(t, []result{
		{"read x; echo $?$x; read x y; echo $?$x.$y; read x; echo $?$x; read x; echo $?$x", "0line one\n0line.two\n1end\n1\n", 0}, {"read; echo $REPLY", "line one\n", 0}, {"IFS=' i'; read a b; echo $a.$b", "l.ne one\n", 0}, {"read a b c d; echo \"$a.$b.$c.$d\"", "line.one..\n", 0}, {"read x y >&-; echo $y", "one\n", 0}, {"read 1 x; echo $?.$x", "1.\n|sh: 1: error 2\n", 0}, {"read x 1 y; echo $?.$x.$y", "1.line.\n|sh: 1: error 2\n", 0}, {"read x <d; echo $?.$x", "1.\n", 0}, {"x=q; read x <&-; echo $?.$x", "1.\n", 0}, {"read x <<E; echo \"$x\"\n  a  b  \nE\n", "a  b\n", 0}, {"read x <<'E'; echo \"$x\"\na\\b\nE\n", "a\\b\n", 0},
		{"echo a b | { read x y; echo $y; }", "b\n", 0}, {"while read x; do echo .$x; done", ".line one\n.line two\n", 0}, {"{ read x; read y; } <note; echo $x $y", "one two three\n", 0}, {"x=$(read y <&1; echo $?.$y); echo $x", "1.\n", 0}, {"cat | while read x; do echo $x.; done", "line one.\nline two.\n", 0},
	})
	x := do(t, shell(t, all, "a\x00b\nc", 100), "read x; echo $x; read y; echo $?$y")
	if out(x) != "ab\n1c\n" {
		t.Error(out(x))
	}
	x = do(t, shell(t, all, strings.Repeat("x", 1500), 3000), "read x; echo $?${#x}; read y; echo $?${#y}")
	if out(x) != "11024\n1476\n" {
		t.Error(out(x))
	}
	// A pipe that nobody writes to leaves nothing to wait for.
	x = do(t, shell(t, all, "", 1000), "read x <<E | read y\nE\n")
	if x.Stop != api.OK || x.Status != 1 {
		t.Error(x.Stop, x.Status)
	}
}

// P32.9
func TestEnding(t *testing.T) {
	expect(t, []result{
		{"exit; echo no", "", 0}, {"false; exit", "", 1}, {"exit 5", "", 5}, {"exit 256", "", 0}, {"exit -1", "", 255}, {"exit 1000", "", 232}, {"false; exit x", "", 1}, {"false; exit 07", "", 1}, {"exit 3 4", "", 3}, {"exit -256", "", 0}, {"return 4; echo no", "", 4}, {"f() { return 4; echo no; }; f; echo $?", "4\n", 0}, {"f() { false; return; }; f; echo $?", "1\n", 0}, {"f() { g; echo a; }; g() { return 2; }; f", "a\n", 0}, {"f() { exit 9; }; f; echo no", "", 9}, {"f() { return -1; }; f", "", 255},
		{"eval echo a '; echo' b", "a\nb\n", 0}, {"false; eval", "", 0}, {"false; eval ''", "", 0}, {"false; eval 'echo $?'", "0\n", 0}, {"eval false", "", 1}, {"eval 'fi'; echo $?", "2\n|sh: eval: error 50\n", 0}, {"eval \"echo '\"", "|sh: eval: error 50\n", 2}, {"x='y=1; echo $y'; eval $x; echo $y", "1\n1\n", 0}, {"eval 'f() { echo $1; }'; f q", "q\n", 0}, {"eval 'exit 3'; echo no", "", 3}, {"eval echo '$1'", "A\n", 0},
	})
	deep := strings.Repeat("{ ", 21) + ":" + strings.Repeat(";}", 21)
	if x := try(t, "eval '"+deep+"'"); out(x) != "|sh: eval: error 51\n" || x.Status != 2 {
		t.Error(out(x), x.Status)
	}
	if x := do(t, shell(t, all, "", 100), "f() { return; }; f"); x.Back || x.Exit {
		t.Error("Back is cleared")
	}
}

// P32.10
func TestPrograms(t *testing.T) {
	expect(t, []result{
		{"cat <note", "one two\nthree\n", 0}, {"/bin/echo a b", "a b\n", 0}, {"bin/fail 7", "", 7}, {"fail; echo $?", "1\n", 0}, {"wc <note", "14\n", 0}, {"wc -l <note", "2\n", 0}, {"head 3 <note", "one", 0}, {"tr o 0 <note", "0ne tw0\nthree\n", 0}, {"cat", "line one\nline two\nend", 0}, {"env", "HOME=/d\nPATH=/bin\n", 0},
		{"nowhere", "|sh: nowhere: not found\n", 127}, {"/none/x", "|sh: /none/x: not found\n", 127}, {"note/x", "|sh: note/x: not found\n", 127}, {"/note", "|sh: /note: error 24\n", 126}, {"text", "|sh: text: error 33\n", 126}, {"locked", "|sh: locked: error 24\n", 126}, {"./d", "|sh: ./d: error 23\n", 126}, {"''", "|sh: : error 23\n", 126}, {"PATH=; cat", "|sh: cat: not found\n", 127}, {"PATH=/none:/note::/bin:/d; fail 4", "", 4}, {"PATH=bin; cd d; cat", "|sh: cat: not found\n", 127}, {"PATH=bin; fail 3", "", 3}, {"PATH=/bin/; fail 3", "", 3},
		{"echo $(cat <note)", "one two three\n", 0}, {"x=$(fail 6); echo $?", "6\n", 0}, {"x=$(nowhere); echo $?.$x", "127.\n|sh: nowhere: not found\n", 0}, {"x=$(nowhere 2>&1); echo $x", "sh: nowhere: not found\n", 0}, {"x=$(/bin/echo a >&2); echo .$x", ".\n|a\n", 0}, {"x=$(cat <&1; echo $?); echo $x", "1\n", 0}, {"echo $(env 2>&1 | wc -l)", "2\n", 0}, {"cat <&-", "", 1}, {"/bin/echo a >&-", "", 1}, {"cat <note >/f; wc </f", "14\n", 0}, {"cat <note >>/f; cat <note >>/f; wc </f", "28\n", 0}, {"x=$(cat </note >&-); echo $?.$x", "1.\n", 0},
	})
	words := strings.Repeat(" a", 16)
	if x := try(t, "/bin/echo"+words+"; echo $?; /bin/echo"+words[2:]); out(x) != "126\n"+words[3:]+"\n|sh: /bin/echo: error 2\n" {
		t.Error(out(x))
	}
	long := strings.Repeat("x", 257)
	if x := try(t, "/bin/echo "+long+"; /bin/echo "+long[1:]); out(x) != long[1:]+"\n|sh: /bin/echo: error 2\n" {
		t.Error(out(x))
	}
	big := shell(t, all, strings.Repeat("y", 16384), 5000)
	if x := do(t, big, "x=$(cat; cat <note); echo no"); x.Stop != api.ErrLimit || x.Status != 125 || out(x) != "" {
		t.Error(x.Stop, x.Status)
	} else if h, c, _ := session.Held(x.S); h != 3 || c != 0 {
		t.Error("the child is killed", h, c)
	}
	// A child that never ends stops with the fuel, or when its output is full.
	if x := do(t, shell(t, all, "", 500), "x=$(yes)"); x.Stop == api.OK {
		t.Error(x.Stop)
	}
	if x := do(t, shell(t, all, "", 50000), "yes"); x.Status != 1 || len(out(x)) != 16384 {
		t.Error(x.Stop, x.Status)
	}
}

// P32.10
func TestDeniedPrograms(t *testing.T) {
	x := do(t, shell(t, "deny spawn /bin/cat\nenv keep *\nenv drop HOME\nenv set Q=1\n"+all, "", 1000), "cat; echo $?; env; PATH=/none:/bin cat")
	if out(x) != "126\nPATH=/bin\nQ=1\n|sh: cat: error 24\nsh: cat: error 24\n" || x.Status != 126 {
		t.Error(out(x), x.Status)
	}
	if l := lines(x); len(l) != 3 || !strings.HasPrefix(l[0], "0 deny spawn /bin/cat ") || !strings.HasPrefix(l[1], "1 allow spawn /bin/env ") {
		t.Error(l)
	}
}

// P32.11
func TestPipelines(t *testing.T) {
	expect(t, []result{
		{"echo a | cat >/b; cat </b", "a\n", 0}, {"cat <note | wc -l", "2\n", 0}, {"cat | tr e E | head 9", "linE onE\n", 0}, {"yes | head 6", "y\ny\ny\n", 0}, {"true | false", "", 1}, {"false | true", "", 0}, {"fail 3 | fail 4", "", 4}, {"fail 3 | true", "", 0}, {"true | fail 5", "", 5}, {"nowhere | cat", "|sh: nowhere: not found\n", 0}, {"cat <note | nowhere", "|sh: nowhere: not found\n", 127}, {"echo a | nowhere", "|sh: nowhere: not found\n", 127}, {"nowhere | echo a; echo $?", "a\n0\n|sh: nowhere: not found\n", 0}, {"exit 3 | exit 4; echo $?", "4\n", 0},
		{"echo a b | { read x y; echo $y $x; }", "b a\n", 0}, {"for i in a b c; do echo $i; done | cat", "a\nb\nc\n", 0}, {"cat <note | while read x; do echo .$x; done", ".one two\n.three\n", 0}, {"f() { cat; }; cat <note | f", "one two\nthree\n", 0}, {"x=1; echo a | x=2; echo $x", "1\n", 0}, {"echo a | cat | cat | cat", "a\n", 0}, {"x=$(cat <note | wc); echo $x", "14\n", 0}, {"x=$(cat | cat | wc -l); echo $x", "2\n", 0}, {"echo $(cat <note | { cat; echo end; })", "one two three end\n", 0}, {"x=$(echo a | cat >&2); echo .$x", ".\n|a\n", 0}, {"x=$(nowhere 2>&1 | cat); echo $x", "sh: nowhere: not found\n", 0}, {"x=$(env >&2 | cat); echo .$x", ".\n|HOME=/d\nPATH=/bin\n", 0}, {"{ env 2>&1 >&2; } 2>/f | cat; cat </f", "HOME=/d\nPATH=/bin\n", 0},
		{"echo a | read x; echo .$x", ".\n", 0}, {"cat <none | cat; echo $?", "0\n|sh: none: error 20\n", 0}, {"cat <note >/f | cat; cat </f", "one two\nthree\n", 0}, {"x=5 env | tr 5 6", "HOME=/d\nPATH=/bin\nx=6\n", 0}, {"echo a | x=1 | echo b", "b\n", 0}, {"(cat; echo x) | cat", "line one\nline two\nendx\n", 0}, {"yes | { read x; echo $x; }; echo $?", "y\n0\n", 0}, {"! echo a | cat", "a\n", 1}, {"! fail 3 | fail 4", "", 0}, {"true | { false; }", "", 1}, {"'cat' <note | \"wc\"", "14\n", 0}, {"c=cat; cat <note | $c", "one two\nthree\n", 0},
	})
	// Programs are spawned first, so the pipe has a reader before a builtin fills it.
	long := strings.Repeat("x", 500)
	if x := do(t, shell(t, all, "", 10000, long), "echo $1 | cat | wc"); out(x) != "501\n" {
		t.Error(out(x), x.Stop)
	}
	// Each pipe needs two handles, of which there are thirteen.
	if x := try(t, "echo 1 | cat | cat | cat | cat | cat | cat"); out(x) != "1\n" || x.Stop != api.OK {
		t.Error(out(x), x.Stop)
	}
	x := try(t, "echo 1 | cat | cat | cat | cat | cat | cat | cat; echo $?")
	if h, _, _ := session.Held(x.S); out(x) != "1\n|sh: |: error 34\n" || h != 3 {
		t.Error(out(x), h)
	}
	if x := try(t, "yes | cat | cat | cat | cat | cat | head 2; echo $?"); out(x) != "y\n0\n" {
		t.Error(out(x), x.Stop)
	}
}

// P32.12
func TestConsequences(t *testing.T) {
	scripts := []string{"for i in *; do cat <$i | wc; done", "x=$(cat <note | tr o 0); echo \"$x\" >/f; cat <f", "f() { echo $#; f $* x; }; f", "while read x; do echo $x | cat; done", "exit 999", "(exit -3)", "yes | head 3", "echo a > b 2>c <note; cat <b"}
	for _, script := range scripts {
		for fuel := range 60 {
			x := shell(t, all, "some\ninput\n", fuel)
			x = do(t, x, script)
			if x.Status < 0 || x.Status > 255 || (x.Stop != api.OK) != (x.Status == 125) {
				t.Errorf("%q with %d: %d, %d", script, fuel, x.Status, x.Stop)
			}
			// Each request adds at least one to Calls.
			if n := len(x.S.Broker.Trace); n > fuel {
				t.Errorf("%q with %d sends %d requests", script, fuel, n)
			}
		}
	}
}

// R1: commands that Parse does not return are executed somehow.
func TestAnyCommands(t *testing.T) {
	part := []api.Part{{Kind: 9}, {Kind: api.PartParam, Op: "??", Text: "x"}, {Kind: api.PartParam, Op: ":", Text: "@"}, {Kind: api.PartArith}, {Kind: api.PartCmd}}
	for kind := -1; kind < 14; kind++ {
		for kids := range 4 {
			for _, fd := range []int{-9, -1, 0, 9, 10, 1 << 40} {
				c := api.Cmd{Kind: kind, Name: "a", In: true, Kids: make([]api.Cmd, kids), Items: make([]api.Item, kids), Words: [][]api.Part{part, nil}}
				for _, op := range []string{"", "<", "<<", ">&", "x"} {
					c.Redirs = append(c.Redirs, api.Redir{Fd: fd, Op: op, Word: part})
				}
				for _, not := range []bool{false, true} {
					c.Not = not
					x := Run(shell(t, all, "", 200), []api.Cmd{c, {Kind: api.CmdSimple, Assigns: []api.Assign{{}}}, {Kind: api.CmdFunc}, {Kind: api.CmdFunc, Name: "f"}})
					if !Check(x) {
						t.Fatalf("%d, %d, %d", kind, kids, fd)
					}
				}
			}
		}
	}
}
