package shell

import (
	"reflect"
	"slices"
	"strings"
	"testing"

	"turnkey/api"
	"turnkey/clone"
	"turnkey/disk"
	"turnkey/interp"
	"turnkey/names"
	"turnkey/node"
	"turnkey/record"
)

func world(t *testing.T) api.Fs {
	t.Helper()
	f := node.New()
	add := func(dir int, name string, n api.Node) int {
		var at int
		var e api.Errno
		if f, at, e = names.Create(f, dir, name, n); e != api.OK {
			t.Fatal(e)
		}
		return at
	}
	bin := add(0, "bin", api.Node{Kind: api.NodeDir, Mode: 7})
	for _, p := range []string{"cat", "echo", "wc", "yes"} {
		add(bin, p, api.Node{Kind: api.NodeFile, Mode: 5, Data: []byte("#!" + p + "\n")})
	}
	add(0, "a", api.Node{Kind: api.NodeFile, Mode: 6, Data: []byte("some text\n")})
	add(0, "d", api.Node{Kind: api.NodeDir, Mode: 7})
	return f
}

func room(n int) api.Disk {
	d, _ := disk.New(n)
	return d
}

const all = "allow * /**"

// run runs a script that may do what the policy permits.
func run(t *testing.T, script string, policy string) api.Result {
	t.Helper()
	return Run(script, policy, world(t), []byte("in\n"), room(1<<16), nil, []string{"A", "B"}, 20000)
}

func lines(r api.Result) []string {
	var out []string
	for _, x := range r.Records {
		out = append(out, record.Line(x))
	}
	return out
}

// P33.1
func TestBoot(t *testing.T) {
	args := []string{"x"}
	x, e := Boot(all, world(t), []byte("in"), room(100), []int{5}, args, 7)
	if e != api.OK || !interp.Check(x) || x.Fuel != 7 || !slices.Equal(x.Args, args) || !slices.Equal(x.S.Choice, []int{5}) || string(x.S.Broker.Kern.In) != "in" {
		t.Errorf("%+v, %d", x, e)
	}
	if !slices.Equal(x.Vars, []api.Var{{Name: "HOME", Value: "/", Export: true}, {Name: "PATH", Value: "/bin", Export: true}}) {
		t.Error(x.Vars)
	}
	if x, e := Boot(all, api.Fs{}, nil, room(100), nil, nil, 7); e != api.ErrArg || !reflect.DeepEqual(x, api.Inter{}) {
		t.Error(e)
	}
}

// P33.1
func TestLine(t *testing.T) {
	x, _ := Boot(all, world(t), nil, room(1000), nil, nil, 1000)
	before := clone.Inter(x)
	y, f := Line(x, "echo a; v=1; false")
	if f != (api.Fault{}) || y.Status != 1 || string(y.S.Broker.Kern.Out) != "a\n" || !reflect.DeepEqual(clone.Inter(x), before) {
		t.Error(f, y.Status)
	}
	y, f = Line(y, "echo $v$?")
	if f != (api.Fault{}) || y.Status != 0 || string(y.S.Broker.Kern.Out) != "a\n11\n" {
		t.Error(f, string(y.S.Broker.Kern.Out))
	}
	z, f := Line(y, "echo b; fi")
	want := clone.Inter(y)
	want.Status = 2
	want.S.Broker.Kern.Err = []byte("sh: syntax: error 50\n")
	if f != (api.Fault{Code: api.ErrSyntax, At: 8}) || !reflect.DeepEqual(clone.Inter(z), want) {
		t.Errorf("%v, %+v", f, z)
	}
	if z, f := Line(y, strings.Repeat(" ", 4097)); f != (api.Fault{Code: api.ErrLimit, At: 4096}) || string(z.S.Broker.Kern.Err) != "sh: syntax: error 4\n" || z.Status != 2 {
		t.Error(f)
	}
	for size, fits := range map[int]bool{16384 - 21: true, 16384 - 20: false} {
		y.S.Broker.Kern.Err = make([]byte, size)
		z, _ := Line(y, "fi")
		if (len(z.S.Broker.Kern.Err) == 16384) != fits || len(z.S.Broker.Kern.Err) < size || z.Status != 2 {
			t.Error(size, len(z.S.Broker.Kern.Err))
		}
	}
}

// P33.1, P33.2: also for a shell that is not valid.
func TestInvalidShell(t *testing.T) {
	x, f := Line(api.Inter{}, "echo a")
	if f != (api.Fault{}) || !reflect.DeepEqual(x, api.Inter{Stop: api.ErrArg}) {
		t.Error(x, f)
	}
	x, f = Line(api.Inter{}, "fi")
	if f.Code != api.ErrSyntax || x.Status != 2 || string(x.S.Broker.Kern.Err) != "sh: syntax: error 50\n" {
		t.Error(x, f)
	}
	if r := Result(api.Inter{Status: 7, Stop: 3}); !reflect.DeepEqual(r, api.Result{Status: 7, Stop: 3}) {
		t.Error(r)
	}
}

// P33.2
func TestRun(t *testing.T) {
	r := run(t, "echo $1 $#; echo err >&2; cat </a >/d/f; exit 3", all)
	if r.Status != 3 || string(r.Out) != "A 2\n" || string(r.Err) != "err\n" || r.Stop != api.OK || r.Fault != (api.Fault{}) {
		t.Errorf("%+v", r)
	}
	if !slices.Contains(node.All(r.Fs), "/d/f") || len(r.Records) != 3 || lines(r)[0] != "0 allow open /a" || lines(r)[1] != "1 allow open /d/f" {
		t.Error(node.All(r.Fs), lines(r))
	}
	r = run(t, "fi", all)
	if r.Status != 2 || r.Fault != (api.Fault{Code: api.ErrSyntax}) || string(r.Err) != "sh: syntax: error 50\n" || r.Stop != api.OK {
		t.Errorf("%+v", r)
	}
	r = run(t, "while :; do :; done", all)
	if r.Status != 125 || r.Stop != api.ErrFuel {
		t.Errorf("%+v", r)
	}
	if r := Run("echo a", all, api.Fs{}, nil, room(9), nil, nil, 9); !reflect.DeepEqual(r, api.Result{Status: 126, Stop: api.ErrArg}) {
		t.Errorf("%+v", r)
	}
	if r := Run("fi", all, world(t), make([]byte, 16385), room(9), nil, nil, 9); !reflect.DeepEqual(r, api.Result{Status: 126, Stop: api.ErrArg}) {
		t.Errorf("%+v", r)
	}
}

// P33.3, and example 1 of the whole.
func TestDenied(t *testing.T) {
	r := run(t, "echo x >/a; echo $?", "deny write /a\n"+all)
	if string(r.Out) != "1\n" || r.Status != 0 || !slices.Equal(lines(r), []string{"0 allow open /a", "1 deny write /a"}) {
		t.Errorf("%q, %q", r.Out, lines(r))
	}
	scripts := []string{
		"cat </a; echo $?", "cd d; echo b >f; cat <f; echo *", "for i in *; do test -f $i && cat <$i; done", "echo a | cat >/d/f; wc </d/f", "x=$(cat </a); echo $x; cd /none; echo $?", "echo x >/a; echo $?; cat </a", "/bin/echo q 2>/d/e; nowhere; echo $?",
	}
	for _, script := range scripts {
		free := run(t, script, all)
		// Whatever permits everything that is issued makes no difference.
		same := run(t, script, "deny * /secret/**\nallow open,write,stat /**\nallow spawn /bin/*\nallow chdir,readdir,unlink,mkdir,rename /**")
		if !reflect.DeepEqual(free, same) {
			t.Errorf("%q: %q; %q", script, free.Out, same.Out)
		}
		// What is denied fails with ErrAccess and changes nothing.
		none := run(t, script, "bad policy")
		if len(none.Records) > 0 && !strings.Contains(lines(none)[0], " deny ") || !reflect.DeepEqual(none.Fs, world(t)) {
			t.Errorf("%q: %q", script, lines(none))
		}
	}
	// A file that may not be written is like one whose Mode forbids it.
	script := "echo x >/a; echo $?; cat </a; cd d; echo $?"
	f := world(t)
	at, _ := node.Lookup(f, 0, "a")
	f.Nodes[at].Mode = 0
	shut := Run(script, all, f, nil, room(1<<16), nil, nil, 1000)
	denied := Run(script, "deny open /a\n"+all, world(t), nil, room(1<<16), nil, nil, 1000)
	if string(shut.Err) != string(denied.Err) || !strings.HasPrefix(string(shut.Err), "sh: /a: error 24\n") {
		t.Errorf("%q, %q", shut.Err, denied.Err)
	}
}

// W2, W3: whatever the power and the fuel are, the script ends, and what was done is recorded.
func TestLimits(t *testing.T) {
	script := "echo a >/d/f; cat </d/f | wc >/d/g; for i in /d/*; do echo $i; done; yes | cat"
	for power := -1; power < 30; power += 3 {
		for fuel := 0; fuel < 200; fuel += 17 {
			r := Run(script, all, world(t), nil, disk.Arm(room(1<<16), power), nil, nil, fuel)
			if r.Status < 0 || r.Status > 255 || (r.Stop != api.OK) != (r.Status == 125) || len(r.Records) > fuel {
				t.Errorf("power %d, fuel %d: %+v", power, fuel, r)
			}
			for i, x := range r.Records {
				if x.Seq != i || !x.Allow {
					t.Errorf("power %d, fuel %d: %+v", power, fuel, x)
				}
			}
			if slices.Contains(node.All(r.Fs), "/d/f") && (len(r.Records) == 0 || lines(r)[0] != "0 allow open /d/f") {
				t.Errorf("power %d, fuel %d: done and not recorded", power, fuel)
			}
		}
	}
}
