package interp

import (
	"fmt"
	"slices"
	"strings"
	"testing"

	"turnkey/api"
	"turnkey/session"
)

// P32.6
func TestControl(t *testing.T) {
	expect(t, []result{
		{"true && echo a || echo b", "a\n", 0}, {"false && echo a || echo b", "b\n", 0}, {"false || false && echo a", "", 1}, {"true || echo a && echo b", "b\n", 0}, {"false; echo $?; true; echo $?", "1\n0\n", 0}, {"false", "", 1}, {"exit 1 || echo a", "", 1},
		{"! true", "", 1}, {"! false", "", 0}, {"! nowhere 2>&-", "", 0}, {"! exit 3", "", 3}, {"! true | false", "", 0}, {"! { false; true; }", "", 1},
		{"if true; then echo a; else echo b; fi", "a\n", 0}, {"if false; then echo a; elif true; then echo b; else echo c; fi", "b\n", 0}, {"if false; then echo a; elif false; then echo b; else echo $?; fi", "1\n", 0}, {"false; if false; then echo a; fi", "", 0}, {"if true; then false; fi", "", 1}, {"if exit 4; then echo a; fi; echo b", "", 4},
		{"{ echo a; false; }", "a\n", 1}, {"{ echo a; } >/f; cat </f", "a\n", 0}, {"x=0; while test $x -lt 3; do echo $x; x=$((x+1)); done", "0\n1\n2\n", 0}, {"false; while false; do :; done", "", 0}, {"x=0; until test $x -ge 2; do x=$((x+1)); false; done", "", 1}, {"x=0; while test $x -lt 2; do x=$((x+1)); done; echo $x", "2\n", 0},
		{"for i in a b c; do echo $i; done; echo $i", "a\nb\nc\nc\n", 0}, {"for i; do echo $i; done", "A\nB C\n", 0}, {"false; for i in; do :; done", "", 0}, {"for i in a b; do false; done", "", 1}, {"for i in *.c; do echo $i; done", "a.c\nb.c\n", 0}, {"for i in a b; do set x; echo $i; done", "a\nb\n", 0}, {"for i; do set x y z; echo $i; done", "A\nB C\n", 0},
		{"case abc in x) echo 1;; a*) echo 2;; *) echo 3;; esac", "2\n", 0}, {"false; case a in b) ;; esac", "", 0}, {"false; case a in a) ;; esac", "", 0}, {"case a in a) false;; esac", "", 1}, {"false; case a in a) echo $?;; esac", "0\n", 0}, {"case '*' in \\*) echo a;; esac; case a in '*') echo b;; \"?\") echo c;; ?) echo d;; esac", "a\nd\n", 0}, {"x='a b'; case $x in \"a b\") echo q;; esac", "q\n", 0}, {"y='*'; case abc in \"$y\") echo a;; $y) echo b;; esac", "b\n", 0}, {"case \"$(echo a)\" in b|a) echo c;; $(echo no >&2)) ;; esac", "c\n", 0}, {"case a in $((1/0))) ;; a) echo a;; esac; echo b", "|sh: arithmetic: error 32\n", 1}, {"case $((1/0)) in *) echo a;; esac", "|sh: arithmetic: error 32\n", 1}, {"case ~ in /d) echo a;; esac", "a\n", 0}, {"case '' in '') echo a;; esac", "a\n", 0},
		{"f() { echo $1 $#; }; f x y; f; echo $1", "x 2\n0\nA\n", 0}, {"false; f() { :; }", "", 0}, {"f() { echo 1; }; f() { echo 2; }; f", "2\n", 0}, {"f() (x=2; echo $x); x=1; f; echo $x", "2\n1\n", 0}, {"f() { x=2; }; x=1; f; echo $x", "2\n", 0}, {"f() { echo a; } >/f; f; cat </f", "a\n", 0},
	})
	for script, want := range map[string]string{"for i in a; do :; done; readonly": "a", "for x in 1 2 3; do x=9; done": "9"} {
		x := try(t, script)
		for _, v := range x.Vars {
			if (v.Name == "i" || v.Name == "x") && v.Value != want {
				t.Errorf("%q: %v", script, v)
			}
		}
	}
}

// P32.6
func TestLoops(t *testing.T) {
	expect(t, []result{
		{"for i in a b; do break; echo no; done; echo $? $i", "0 a\n", 0}, {"for i in a b; do continue; echo no; done; echo $i", "b\n", 0}, {"while true; do false; break; done; echo $?", "0\n", 0}, {"for i in a b; do for j in c d; do echo $i$j; break 2; done; echo no; done; echo end", "ac\nend\n", 0}, {"for i in a b; do for j in c d; do echo $i$j; continue 2; done; echo no; done", "ac\nbc\n", 0}, {"for i in a b; do for j in c d; do echo $i$j; break 9; done; done", "ac\n", 0},
		{"x=0; while x=$((x+1)); if test $x = 2; then continue; fi; test $x -lt 4; do echo $x; done", "1\n3\n", 0}, {"while break; do echo no; done; echo $?", "0\n", 0}, {"x=0; while test $x -lt 3; do x=$((x+1)); if test $x = 2; then continue; fi; echo $x; done", "1\n3\n", 0}, {"break; echo a; continue; echo b", "a\nb\n", 0}, {"for i in a b; do break 0; echo $i; done", "a\nb\n", 0}, {"for i in a b; do break x; echo $i$?; done", "a0\nb0\n", 0}, {"for i in a b; do break -1; continue 07; echo $i; done", "a\nb\n", 0},
		{"for i in a b; do (break; echo $i); done", "a\nb\n", 0}, {"for i in a b; do x=$(break; echo $i); echo $x; done", "a\nb\n", 0}, {"f() { break; }; for i in a b; do f; echo no; done; echo end", "end\n", 0}, {"f() { for j in c; do return 5; done; echo no; }; for i in a b; do f; echo $?; done", "5\n5\n", 0}, {"while true; do exit 6; done; echo no", "", 6}, {"for i in a b; do eval break; echo no; done; echo $i", "a\n", 0}, {"until false; do break; done", "", 0}, {"for i in a b; do true && break || echo no; done", "", 0}, {"for i in a; do { break; echo no; } >/f; echo no; done", "", 0},
	})
	if x := try(t, "for i in a; do for j in b; do :; done; done"); x.Loops != 0 || x.Leave != 0 || x.Again {
		t.Error(x.Loops, x.Leave, x.Again)
	}
	// A loop that does not end stops for lack of fuel.
	for _, script := range []string{"while true; do :; done", "until false; do continue; done", "while :; do echo a; done >/f", "f() { while :; do f2; done; }; f2() { :; }; f", "x='eval $x'; eval $x"} {
		if x := do(t, shell(t, all, "", 2000), script); x.Stop != api.ErrFuel || x.Status != 125 {
			t.Errorf("%q: %d", script, x.Stop)
		}
	}
}

// P32.6
func TestForAssignment(t *testing.T) {
	l := parse(t, "for i in a b; do echo no; done; echo no")
	l[0].Kids[0].Name = "1"
	x := Run(shell(t, all, "", 100), l)
	if out(x) != "|sh: 1: error 2\n" || x.Status != 1 || !x.Exit || !Check(x) {
		t.Error(out(x), x.Status)
	}
}

// P32.6
func TestFunctions(t *testing.T) {
	var script strings.Builder
	for i := range 32 {
		fmt.Fprintf(&script, "f%d() { echo %d; }\n", i, i)
	}
	x := try(t, script.String()+"g() { :; }; echo $?; f31; f0() { echo z; }; f0; unset f5; g() { echo g; }; g; f5")
	if out(x) != "1\n31\nz\ng\n|sh: g: error 4\nsh: f5: not found\n" || len(x.Funcs) != 32 || x.Status != 127 {
		t.Error(out(x), len(x.Funcs))
	}
	// Twenty calls may be within one another.
	x = try(t, "f() { echo $1; test $1 -lt 20 && f $(($1+1)); }; f 1")
	if x.Stop != api.OK || !strings.HasSuffix(out(x), "20\n") || x.Calls != 0 {
		t.Error(x.Stop, out(x))
	}
	x = try(t, "f() { f; }; f; echo no")
	if x.Stop != api.ErrDeep || x.Status != 125 || out(x) != "" || x.Calls != 0 {
		t.Error(x.Stop, x.Status, x.Calls)
	}
}

// P32.7
func TestSubshells(t *testing.T) {
	expect(t, []result{
		{"x=1; (x=2; y=3; echo $x$y); echo $x$y", "23\n1\n", 0}, {"(cd d; pwd); pwd; cat <note", "/d\n/\none two\nthree\n", 0}, {"(exit 3); echo $?", "3\n", 0}, {"(f() { echo a; }; f); f", "a\n|sh: f: not found\n", 127}, {"(set x; echo $1); echo $1", "x\nA\n", 0}, {"f() { (return 3; echo no); echo $?; }; f", "3\n", 0}, {"x=1 | y=2; echo .$x$y", ".\n", 0}, {"(false)", "", 1}, {"(echo a) >/f; cat <f", "a\n", 0}, {"((echo a); (exit 2))", "a\n", 2}, {"unset -f; (unset HOME; echo ${HOME-none}); echo $HOME", "none\n/d\n", 0},
	})
}

// P32.7
func TestRedirections(t *testing.T) {
	expect(t, []result{
		{"echo a >/f; echo b >>/f; cat </f; echo c >/f; cat <f", "a\nb\nc\n", 0}, {"read x </note; echo $x", "one two\n", 0}, {"read x y <note; echo $y", "two\n", 0}, {"echo a >d/f; cat <./d/f; cd d; cat <f", "a\na\n", 0}, {">/f; test -f /f; echo $?", "0\n", 0}, {"echo a 1>/f 2>/g; cat <f; cat <g", "a\n", 0},
		{"cat <none; echo $?", "1\n|sh: none: error 20\n", 0}, {"echo a >d; echo $?", "1\n|sh: d: error 23\n", 0}, {"echo a >none/x", "|sh: none/x: error 20\n", 1}, {"<none >/f; test -e /f; echo $?", "1\n|sh: none: error 20\n", 0}, {">/f <none; test -e /f; echo $?", "0\n|sh: none: error 20\n", 0}, {"{ echo no; } <none || echo b", "b\n|sh: none: error 20\n", 0}, {"cat <''", "", 1},
		{"echo a >&2", "|a\n", 0}, {"echo a 2>&1 >&2", "a\n", 0}, {"nowhere >&2 2>&1", "|sh: nowhere: not found\n", 127}, {"{ echo a; echo b >&2; } 2>&1", "a\nb\n", 0}, {"echo a 3>&1 1>&2 2>&3", "|a\n", 0}, {"echo a >&x", "|sh: x: error 27\n", 1}, {"echo a >&10", "|sh: 10: error 27\n", 1}, {"echo a >&9", "|sh: 9: error 27\n", 1}, {"echo a >&''", "|sh: : error 27\n", 1}, {"read x <&-; echo $?", "1\n", 0}, {"echo a 3>&-", "a\n", 0}, {"x=1; echo a >&$x", "a\n", 0}, {"echo a 9>/f >&9; cat <f", "a\n", 0}, {"cat 5</note <&5", "one two\nthree\n", 0},
		{"cat <<E\na $1\n\\$1\nE\n", "a A\n$1\n", 0}, {"cat <<'E'\na $1\nE\n", "a $1\n", 0}, {"read x <<E; echo $x\nq r\nE\n", "q r\n", 0}, {"cat <<E\nE\n", "", 0}, {"cat 3<<E <&3\nx\nE\n", "x\n", 0}, {"while read x; do echo .$x; done <<E\na\nb\nE\n", ".a\n.b\n", 0}, {"cat <<E\n" + strings.Repeat("x", 63) + "\nE\n", strings.Repeat("x", 63) + "\n", 0}, {"cat <<E\n" + strings.Repeat("x", 64) + "\nE\n", "|sh: <<: error 35\n", 1}, {"cat <<A <<B\na\nA\nb\nB\n", "b\n", 0},
		{"echo a >$((1/0)); echo b", "|sh: arithmetic: error 32\n", 1}, {"for i in a b; do echo $i; done >/f; cat <f", "a\nb\n", 0}, {"if read x; then echo $x; fi <note", "one two\n", 0}, {"case a in a) echo b;; esac >/f; cat <f", "b\n", 0}, {"echo a >~/f; cat <d/f", "a\n", 0}, {"exit 3 >/f", "", 3}, {"while true; do break; done <note; read x; echo $x", "line one\n", 0}, {"nowhere 2>/f </none; cat <f; echo .", "sh: /none: error 20\n.\n", 0}, {"x=$(echo a >&2); echo .$x", ".\n|a\n", 0}, {"x=$(echo a 3>&1 >&3); echo .$x", ".a\n", 0}, {"x=$(echo a >&-; echo $?); echo .$x", ".1\n", 0},
	})
	many := strings.Repeat("{ ", 13) + "echo a" + strings.Repeat("; } <note", 13)
	if x := try(t, many); x.Status != 0 || out(x) != "a\n" {
		t.Error(out(x), x.Status)
	}
	many = strings.Repeat("{ ", 14) + "echo a" + strings.Repeat("; } <note", 14)
	if x := try(t, many); x.Status != 1 || out(x) != "|sh: note: error 34\n" {
		t.Error(out(x), x.Status)
	}
	if x := try(t, "echo a >/f; cat <l/../a.c; echo >>/bin/echo"); !slices.Equal(lines(x)[:2], []string{"0 allow open /f", "1 allow write /f"}) || out(x) != "|sh: /bin/echo: error 24\n" {
		t.Error(lines(x), out(x))
	}
}

// P32.7: whatever happens, descriptors are what they were, and handles are closed.
func TestDescriptorsAreRestored(t *testing.T) {
	x := try(t, "{ exec; echo b; } 3>/f 4</note >&3; f() { return; } >/g; f; { exit 3; } >/h")
	if h, _, _ := session.Held(x.S); h != 3 || !slices.Equal(x.Fds, []int{0, 1, 2, -1, -1, -1, -1, -1, -1, -1}) || x.Status != 3 {
		t.Error(h, x.Fds)
	}
}
