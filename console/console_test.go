package console

import (
	"strings"
	"testing"
)

// play executes command lines and compares what each of them outputs; the lines and outputs take turns.
func play(t *testing.T, turns ...string) {
	t.Helper()
	c := New()
	for i := 0; i < len(turns); i += 2 {
		if got := c.Do(turns[i]); got != turns[i+1] {
			t.Errorf("%q: %q; want %q", turns[i], got, turns[i+1])
		}
	}
}

const paths = "/\n/bin\n/bin/cat\n/bin/echo\n/bin/env\n/bin/fail\n/bin/false\n/bin/head\n/bin/tr\n/bin/true\n/bin/wc\n/bin/yes\n"

// P34.1
func TestNoConsole(t *testing.T) {
	var none *Console
	if none.Do("boot 9") != "" || (&Console{}).Do("boot 9") != "" || new(Console).Do("nothing") != "" {
		t.Error("only New makes a console")
	}
}

// P34.1
func TestLines(t *testing.T) {
	play(t,
		"", "", "   ", "", "# boot 9", "", "#", "", "  #x y", "", "nothing", "error 310\n", "Boot 9", "error 310\n", "boot\t9", "error 310\n", "\t", "error 310\n", "boot", "error 310\n", "boot x", "error 310\n", "boot 1 2", "error 310\n", "boot -1", "error 310\n", "boot +1", "error 310\n", "boot 1234567890", "error 310\n", "boot 0000000001", "error 310\n", "boot 1x", "error 310\n",
		"sh echo", "error 1\n", "sh fi", "error 1\n", "log", "error 1\n", "tree", "error 1\n", "crash 0", "error 1\n", "crash", "error 310\n", "crash x", "error 310\n", "crash 1 2", "error 310\n", "log x", "error 310\n", "tree x", "error 310\n", "choice x", "error 310\n", "choice 1 -2", "error 310\n", "file", "error 310\n", "file  ", "error 310\n",
		"  boot   000000099  ", "ok\n", "  sh   echo hi", "hi\nstatus 0 0\n", "log  ", "log 0\n",
	)
}

// P34.1
func TestShell(t *testing.T) {
	play(t,
		"boot 99", "ok\n", "sh echo hi", "hi\nstatus 0 0\n", "sh", "status 0 0\n", "sh x='a  b'; echo \"$x\"", "a  b\nstatus 0 0\n", "sh echo $x $#", "a b 0\nstatus 0 0\n", "sh echo a\techo b", "a\nb\nstatus 0 0\n", "sh false", "status 1 0\n", "sh nowhere; cd /q", "err sh: nowhere: not found\nerr sh: /q: error 20\nstatus 1 0\n", "sh echo a; echo b >&2", "a\nerr b\nstatus 0 0\n",
		"sh head 2 <<E\tabc\tE", "abstatus 0 0\n", "sh fi", "err sh: syntax: error 50\nstatus 2 0\n", "sh echo >&2", "err \nstatus 0 0\n", "sh read x; echo $?", "1\nstatus 0 0\n", "sh exit 3", "status 3 0\n", "sh echo a", "status 3 0\n", "boot 7", "ok\n", "sh echo $x.", ".\nstatus 0 0\n", "sh while :; do :; done", "status 125 52\n", "sh echo a", "status 125 52\n",
	)
}

// P34.1
func TestPolicyFileAndChoice(t *testing.T) {
	play(t,
		"policy deny write /note;allow * /**", "ok\n", "policy  bad", "line 1\n", "policy allow * /**; ;bad", "line 3\n", "file note some text;more  ", "ok\n", "file  a  b;", "ok\n", "file e", "ok\n", "file note x", "error 21\n", "file .. x", "error 32\n", "file bin", "error 21\n", "file "+strings.Repeat("n", 33), "error 31\n", "file long "+strings.Repeat("x", 4097), "error 2\n", "boot 1000", "ok\n",
		"sh echo x >>note; echo $?", "1\nstatus 0 0\n", "sh cat <note", "some text\nmore  status 0 0\n", "sh cat <a", " b\nstatus 0 0\n", "sh cat <e; test -f e", "status 0 0\n", "sh echo x >e", "status 0 0\n", "policy", "ok\n", "sh cat <a", " b\nstatus 0 0\n", "boot 99", "ok\n", "sh cat <a", "err sh: a: error 24\nstatus 1 0\n", "log", "0 deny open /a\nlog 1\n",
	)
	play(t, "choice", "ok\n", "choice 1 00 2", "ok\n", "policy allow * /**", "ok\n", "boot 999", "ok\n", "sh echo a | cat", "a\nstatus 0 0\n")
	order := func(choice string) string {
		c := New()
		c.Do(choice)
		c.Do("boot 999")
		return c.Do("sh { /bin/echo a >&3 | /bin/echo b >&3; } 3>&1")
	}
	if order("choice") != "a\nb\nstatus 0 0\n" || order("choice 1 1") != "b\na\nstatus 0 0\n" {
		t.Errorf("%q, %q", order("choice"), order("choice 1 1"))
	}
}

// P34.1
func TestPrint(t *testing.T) {
	play(t,
		"print a|b;c>x", "a | b\n> x c\n", "print", "", "print if a\tthen b\tfi", "if a\nthen b\nfi\n", "print a; fi", "error 50 3\n", "print cat <<E\tx\tE", "<<'E' cat\nx\nE\n", "print "+strings.Repeat("{ ", 21), "error 51 40\n", "print "+strings.Repeat("a", 4097), "error 4 4096\n", "print  'a  b'", "'a  b'\n",
	)
}

// P34.1
func TestLogTreeCrash(t *testing.T) {
	play(t,
		"boot 999", "ok\n", "tree", paths, "log", "log 0\n", "sh echo a >/f; cd bin; ./nothing", "err sh: ./nothing: not found\nstatus 127 0\n", "tree", paths+"/f\n", "crash 5", "log 4\n", "crash 0", "log 4\n", "sh test -e f", "status 1 0\n",
	)
	c := New()
	c.Do("boot 999")
	c.Do("sh echo a >/f; cat <f")
	log := c.Do("log")
	if !strings.HasPrefix(log, "0 allow open /f\n1 allow write /f\n2 allow open /f\n3 allow spawn /bin/cat ") || !strings.HasSuffix(log, "\nlog 4\n") {
		t.Errorf("%q", log)
	}
	// The log goes on behind what was recovered.
	c.Do("crash 9")
	c.Do("sh test -e /f")
	if got := c.Do("log"); got != strings.TrimSuffix(log, "log 4\n")+"4 allow stat /f\nlog 5\n" {
		t.Errorf("%q", got)
	}
	c.Do("boot 9")
	if got := c.Do("tree") + c.Do("log"); got != paths+"log 0\n" {
		t.Errorf("%q", got)
	}
}

// P34.1: when the disk is full, nothing governed is performed any more.
func TestFullDisk(t *testing.T) {
	c := New()
	c.Do("boot 99999")
	c.Do("sh x=0; while test -e /; do x=$((x+1)); done; echo $x")
	if got := c.Do("sh echo a >/f"); got != "err sh: /f: error 42\nstatus 1 0\n" {
		t.Errorf("%q", got)
	}
}

// P34.2
func TestPlay(t *testing.T) {
	for text, want := range map[string]string{
		"": "", "\n": "> \n", "boot 9": "> boot 9\nok\n", "boot 9\n": "> boot 9\nok\n", "# c\n\n boot 9\nsh echo hi; echo no >&2\nwhat": "> # c\n> \n>  boot 9\nok\n> sh echo hi; echo no >&2\nhi\nerr no\nstatus 0 0\n> what\nerror 310\n", "file x a\nboot 9\nprint a": "> file x a\nok\n> boot 9\nok\n> print a\na\n",
	} {
		if got := Play(text); got != want {
			t.Errorf("Play(%q) = %q; want %q", text, got, want)
		}
	}
	if Play("sh echo") != "> sh echo\nerror 1\n" {
		t.Error("each play has a console of its own")
	}
}
