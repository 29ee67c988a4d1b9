package prog

import (
	"math"
	"reflect"
	"strings"
	"testing"

	"turnkey/api"
)

var programs = []string{"true", "false", "echo", "cat", "wc", "head", "tr", "env", "fail", "yes"}

// begin returns a child whose words follow its name.
func begin(prog string, words ...string) api.Proc {
	return Begin(7, prog, append([]string{prog}, words...), []string{"A=1", "B=2"}, []int{3, 4, 5})
}

// play runs a child to its end with an input, and returns its output and status.
func play(t *testing.T, p api.Proc, in string) (string, int) {
	t.Helper()
	var out strings.Builder
	for range 10000 {
		act := Next(p)
		switch act.Kind {
		case api.ActEnd:
			return out.String(), act.Status
		case api.ActWrite:
			n := min(len(act.Data), 5)
			out.Write(act.Data[:n])
			p = After(p, api.OK, n, nil)
		case api.ActRead:
			n := min(len(in), act.N)
			p = After(p, api.OK, 0, []byte(in[:n]))
			in = in[n:]
		default:
			t.Fatalf("%+v", act)
		}
	}
	t.Fatal("no end")
	return "", 0
}

// P18.1
func TestProgram(t *testing.T) {
	for _, name := range programs {
		if !Known(name) {
			t.Error(name)
		}
		for _, data := range []string{"#!" + name, "#!" + name + "\n", "#!" + name + "\nrest\n"} {
			if got, ok := Program([]byte(data)); got != name || !ok {
				t.Errorf("%q: %q, %v", data, got, ok)
			}
		}
	}
	for _, data := range []string{"", "#", "#!", "#!\necho", "echo", "#! echo", "#!echo ", "#!Echo", "#!sh\n", "x#!echo", "#!echo\r\n"} {
		if got, ok := Program([]byte(data)); got != "" || ok {
			t.Errorf("%q: %q, %v", data, got, ok)
		}
	}
	for _, name := range []string{"", "sh", "TRUE", "echo "} {
		if Known(name) {
			t.Error(name)
		}
	}
}

// P18.2
func TestBegin(t *testing.T) {
	args, env, fds := []string{"cat", "x"}, []string{"A=1"}, []int{1, 2, -1}
	p := Begin(9, "cat", args, env, fds)
	if !reflect.DeepEqual(p, api.Proc{Pid: 9, Prog: "cat", Args: []string{"cat", "x"}, Env: []string{"A=1"}, Fds: []int{1, 2, -1}}) {
		t.Errorf("%+v", p)
	}
	p.Args[0], p.Env[0], p.Fds[0] = "", "", 9
	if args[0] != "cat" || env[0] != "A=1" || fds[0] != 1 {
		t.Error("shared")
	}
}

// P18.2
func TestNext(t *testing.T) {
	read := api.Act{Kind: api.ActRead, N: 16}
	for _, c := range []struct {
		p    api.Proc
		want api.Act
	}{
		{api.Proc{Done: true, Status: 5, Phase: 1}, api.Act{Kind: api.ActEnd, Status: 5}}, {api.Proc{Phase: 4, Status: 6}, api.Act{Kind: api.ActEnd, Status: 6}},
		{api.Proc{Phase: 2, Buf: []byte("x")}, api.Act{Kind: api.ActWrite, Fd: 1, Data: []byte("x")}}, {api.Proc{Phase: 3}, api.Act{Kind: api.ActWrite, Fd: 1}},
		{api.Proc{Phase: 1}, read}, {api.Proc{Phase: 5}, read}, {api.Proc{Phase: -1}, read}, {begin("cat"), read}, {begin("true"), api.Act{Kind: api.ActEnd}},
		{begin("false"), api.Act{Kind: api.ActEnd, Status: 1}}, {begin("echo", "a", "b"), api.Act{Kind: api.ActWrite, Fd: 1, Data: []byte("a b\n")}}, {begin("none"), api.Act{Kind: api.ActEnd, Status: 127}}, {api.Proc{}, api.Act{Kind: api.ActEnd, Status: 127}},
	} {
		if got := Next(c.p); !reflect.DeepEqual(got, c.want) {
			t.Errorf("%+v: %+v", c.p, got)
		}
	}
}

// P18.3
func TestStarting(t *testing.T) {
	for _, c := range []struct {
		p      api.Proc
		in     string
		out    string
		status int
	}{
		{begin("true"), "", "", 0}, {begin("false"), "", "", 1}, {begin("echo"), "", "\n", 0}, {begin("echo", "a", "", "b"), "", "a  b\n", 0}, {Begin(1, "echo", nil, nil, nil), "", "\n", 0},
		{begin("cat"), "some text\nand more than sixteen bytes", "some text\nand more than sixteen bytes", 0}, {begin("cat"), "", "", 0},
		{begin("wc"), "a\nb\n" + strings.Repeat("x", 40), "44\n", 0}, {begin("wc", "-l"), "a\nb\nc", "2\n", 0}, {begin("wc", "x", "-l"), "a\n", "2\n", 0}, {begin("wc"), "", "0\n", 0},
		{begin("head", "3"), "abcdef", "abc", 0}, {begin("head", "20"), strings.Repeat("ab", 30), strings.Repeat("ab", 10), 0}, {begin("head"), strings.Repeat("x", 30), strings.Repeat("x", 10), 0}, {begin("head", "-1"), "abcdefghijklm", "abcdefghij", 0}, {begin("head", "03"), "abcdefghijklm", "abcdefghij", 0}, {begin("head", "0"), "abc", "", 0}, {begin("head", "5"), "abc", "abc", 0},
		{begin("tr", "a", "b"), "banana", "bbnbnb", 0}, {begin("tr", "a"), "x", "", 1}, {begin("tr", "ab", "c"), "x", "", 1}, {begin("tr", "a", ""), "x", "", 1}, {begin("tr", "a", "b", "c"), "x", "", 1}, {begin("tr"), "x", "", 1},
		{begin("env"), "", "A=1\nB=2\n", 0}, {Begin(1, "env", nil, nil, nil), "", "", 0},
		{begin("fail"), "", "", 1}, {begin("fail", "0"), "", "", 0}, {begin("fail", "255"), "", "", 255}, {begin("fail", "256"), "", "", 1}, {begin("fail", "-1"), "", "", 1}, {begin("fail", "x"), "", "", 1}, {begin("fail", "007"), "", "", 1},
		{begin("nothing"), "", "", 127},
	} {
		if out, status := play(t, c.p, c.in); out != c.out || status != c.status {
			t.Errorf("%s %q: %q, %d", c.p.Prog, c.p.Args, out, status)
		}
	}
}

// P18.3, P18.4
func TestYes(t *testing.T) {
	p := begin("yes")
	for i := range 20 {
		act := Next(p)
		if act.Kind != api.ActWrite || string(act.Data) != "y\n"[i%2:] {
			t.Fatalf("%d: %+v", i, act)
		}
		p = After(p, api.OK, 1, nil)
	}
	p = After(p, api.ErrPipe, 0, nil)
	if act := Next(p); act.Kind != api.ActEnd || act.Status != 141 {
		t.Errorf("%+v", act)
	}
}

// P18.4
func TestAfter(t *testing.T) {
	for _, c := range []struct {
		name string
		p    api.Proc
		e    api.Errno
		n    int
		data string
		want api.Proc
	}{
		{"done", api.Proc{Done: true, Phase: 1, Prog: "cat"}, api.OK, 0, "x", api.Proc{Done: true, Phase: 1, Prog: "cat"}},
		{"ended", api.Proc{Phase: 4, Status: 3}, api.ErrPipe, 0, "x", api.Proc{Phase: 4, Status: 3}},
		{"again", api.Proc{Phase: 1, Prog: "cat"}, api.ErrAgain, 0, "x", api.Proc{Phase: 1, Prog: "cat"}},
		{"started and again", api.Proc{Prog: "cat"}, api.ErrAgain, 0, "x", api.Proc{Phase: 1, Prog: "cat"}},
		{"started and ended", api.Proc{Prog: "false"}, api.ErrPipe, 0, "x", api.Proc{Phase: 4, Status: 1, Prog: "false"}},
		{"started and wrote", api.Proc{Prog: "echo", Args: []string{"echo", "hi"}}, api.OK, 1, "", api.Proc{Phase: 3, Prog: "echo", Args: []string{"echo", "hi"}, Buf: []byte("i\n")}},
		{"pipe", api.Proc{Phase: 2, Buf: []byte("x")}, api.ErrPipe, 1, "", api.Proc{Phase: 4, Status: 141, Buf: []byte("x")}},
		{"full", api.Proc{Phase: 3, Buf: []byte("x")}, api.ErrFull, 1, "", api.Proc{Phase: 4, Status: 1, Buf: []byte("x")}},
		{"some", api.Proc{Phase: 2, Buf: []byte("xyz")}, api.OK, 2, "", api.Proc{Phase: 2, Buf: []byte("z")}},
		{"less than none", api.Proc{Phase: 2, Buf: []byte("xyz")}, api.OK, -2, "", api.Proc{Phase: 2, Buf: []byte("xyz")}},
		{"more than all", api.Proc{Phase: 2, Buf: []byte("xyz")}, api.OK, math.MaxInt, "", api.Proc{Phase: 1}},
		{"all of the last", api.Proc{Phase: 3, Buf: []byte("xyz")}, api.OK, 3, "", api.Proc{Phase: 4}},
		{"yes in phase 3", api.Proc{Phase: 3, Prog: "yes", Buf: []byte("xyz")}, api.OK, 3, "", api.Proc{Phase: 4, Prog: "yes"}},
		{"read fails", api.Proc{Phase: 1, Prog: "cat"}, api.ErrBadf, 0, "x", api.Proc{Phase: 4, Status: 1, Prog: "cat"}},
		{"pipe in a read", api.Proc{Phase: 1, Prog: "cat"}, api.ErrPipe, 0, "x", api.Proc{Phase: 4, Status: 1, Prog: "cat"}},
		{"end", api.Proc{Phase: 1, Prog: "cat", Status: 9}, api.OK, 5, "", api.Proc{Phase: 4, Prog: "cat", Status: 9}},
		{"end of wc", api.Proc{Phase: 1, Prog: "wc", Count: -3}, api.OK, 0, "", api.Proc{Phase: 3, Prog: "wc", Count: -3, Buf: []byte("-3\n")}},
		{"wc", api.Proc{Phase: 1, Prog: "wc", Count: -3}, api.OK, 0, "abc", api.Proc{Phase: 1, Prog: "wc", Count: 3}},
		{"wc at its most", api.Proc{Phase: 1, Prog: "wc", Count: math.MaxInt}, api.OK, 0, "abc", api.Proc{Phase: 1, Prog: "wc", Count: 1<<40 + 3}},
		{"head", api.Proc{Phase: 1, Prog: "head", Count: 2}, api.OK, 0, "abc", api.Proc{Phase: 3, Prog: "head", Buf: []byte("ab")}},
		{"head of more", api.Proc{Phase: 1, Prog: "head", Count: 9}, api.OK, 0, "abc", api.Proc{Phase: 2, Prog: "head", Count: 6, Buf: []byte("abc")}},
		{"head of less than none", api.Proc{Phase: 1, Prog: "head", Count: -2}, api.OK, 0, "abc", api.Proc{Phase: 3, Prog: "head"}},
		{"tr without words", api.Proc{Phase: 1, Prog: "tr"}, api.OK, 0, "abc", api.Proc{Phase: 2, Prog: "tr", Buf: []byte("abc")}},
		{"another phase", api.Proc{Phase: 9, Prog: "true"}, api.OK, 0, "abc", api.Proc{Phase: 2, Prog: "true", Buf: []byte("abc")}},
		{"unknown", api.Proc{Phase: 1, Prog: "none"}, api.OK, 0, "abc", api.Proc{Phase: 2, Prog: "none", Buf: []byte("abc")}},
	} {
		if got := After(c.p, c.e, c.n, []byte(c.data)); !reflect.DeepEqual(got, c.want) {
			t.Errorf("%s: %+v", c.name, got)
		}
	}
	data := []byte("abc")
	p := After(api.Proc{Phase: 1, Prog: "cat"}, api.OK, 0, data)
	p.Buf[0] = 'x'
	q := After(p, api.OK, 1, nil)
	q.Buf[0] = 'y'
	if data[0] != 'a' || p.Buf[1] != 'b' {
		t.Error("shared")
	}
}

// P18.5
func TestConsequences(t *testing.T) {
	errnos := []api.Errno{api.OK, api.ErrPipe, api.ErrAgain, api.ErrBadf, api.ErrFull}
	for _, prog := range append(programs, "none") {
		for _, words := range [][]string{nil, {"5"}, {"300"}, {"a", "b"}} {
			for seed := range 25 {
				p := begin(prog, words...)
				for step := range 60 {
					e := errnos[(seed*7+step*step)%(step+1)%5]
					data := "some data"
					if step > 20 {
						data = ""
					}
					if step > 40 {
						e = api.ErrPipe
					}
					p = After(p, e, step%4, []byte(data))
				}
				if act := Next(p); act.Kind != api.ActEnd || act.Status < 0 || act.Status > 255 {
					t.Errorf("%s %q: %+v", prog, words, act)
				}
			}
		}
	}
}
