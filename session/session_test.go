package session

import (
	"bytes"
	"reflect"
	"slices"
	"strings"
	"testing"

	"turnkey/api"
	"turnkey/clone"
	"turnkey/disk"
	"turnkey/frame"
	"turnkey/proto"
)

func sampleFs() api.Fs {
	return api.Fs{Nodes: []api.Node{
		{Kind: 2, Mode: 7, Links: 1, Names: []api.Name{{Name: "a", Node: 1}, {Name: "echo", Node: 2}}},
		{Kind: 1, Mode: 6, Links: 1, Data: []byte("hello")}, {Kind: 1, Mode: 5, Links: 1, Data: []byte("#!echo\n")},
	}}
}

func boot(t *testing.T, choice ...int) api.Session {
	t.Helper()
	d, _ := disk.New(4096)
	s, e := New("allow * /**", sampleFs(), []byte("in"), d, choice)
	if e != api.OK || !Check(s) {
		t.Fatal(e)
	}
	return s
}

// framed returns the frames of requests.
func framed(t *testing.T, l ...api.Req) []byte {
	t.Helper()
	var out []byte
	for _, r := range l {
		b, e := proto.Encode(r)
		f, e2 := frame.Put(b)
		if e != api.OK || e2 != api.OK {
			t.Fatal(r, e, e2)
		}
		out = append(out, f...)
	}
	return out
}

// formError is the frame that ends a session.
var formError = []byte{0, 1, byte(api.ErrForm)}

func sameSession(a, b api.Session) bool {
	return reflect.DeepEqual(clone.Session(a), clone.Session(b))
}

// P23.1
func TestNewAndCheck(t *testing.T) {
	choice := []int{3, 4}
	d, _ := disk.New(10)
	s, e := New("", sampleFs(), nil, d, choice)
	choice[0] = 9
	if e != api.OK || s.Over || s.Stream.Dead || len(s.Stream.Have) != 0 || !slices.Equal(s.Choice, []int{3, 4}) || !Check(s) {
		t.Errorf("%+v, %d", s, e)
	}
	if s, e := New("", api.Fs{}, nil, d, nil); e != api.ErrArg || !reflect.DeepEqual(s, api.Session{}) {
		t.Error(e)
	}
	over := boot(t)
	over.Over = true
	if !Check(over) {
		t.Error("a session that is over is valid")
	}
	over.Stream.Dead = true
	if !Check(over) {
		t.Error("a session that is over is valid")
	}
	for name, s := range invalid(t) {
		if Check(s) {
			t.Error(name)
		}
	}
}

func invalid(t *testing.T) map[string]api.Session {
	dead, stream, kern := boot(t), boot(t), boot(t)
	dead.Stream.Dead = true
	stream.Stream.Have = []byte{0, 0}
	kern.Broker.Kern.Pids = -1
	return map[string]api.Session{"zero": {}, "dead but not over": dead, "stream": stream, "broker": kern}
}

// P23.2
func TestFeed(t *testing.T) {
	s := boot(t)
	got, out := Feed(s, []byte{0, 1, 4, 0})
	if !bytes.Equal(out, []byte{0, 9, 0, 0, 0, 0, 3, 0, 0, 0, 4}) || !bytes.Equal(got.Stream.Have, []byte{0}) || !Check(got) {
		t.Error(out, got.Stream)
	}
	got, out = Feed(got, []byte{5, 2, 0, 0, 0, 9})
	if !bytes.Equal(out, []byte{0, 1, byte(api.ErrBadf)}) || len(got.Stream.Have) != 0 {
		t.Error(out, got.Stream)
	}
	if _, out := Feed(got, nil); len(out) != 0 {
		t.Error(out)
	}
	for name, s := range invalid(t) {
		if got, out := Feed(s, framed(t, api.Req{Op: api.OpPipe})); len(out) != 0 || !sameSession(got, s) {
			t.Error(name, out)
		}
	}
	over := boot(t)
	over.Over = true
	if got, out := Feed(over, framed(t, api.Req{Op: api.OpPipe})); len(out) != 0 || !sameSession(got, over) {
		t.Error(out)
	}
}

// P23.2
func TestNoRequest(t *testing.T) {
	pipe := framed(t, api.Req{Op: api.OpPipe})
	first := []byte{0, 9, 0, 0, 0, 0, 3, 0, 0, 0, 4}
	for name, bad := range map[string][]byte{"no op": {0, 1, 0}, "short": {0, 2, 2, 0}, "length 0": {0, 0}, "length 4097": {16, 1}, "invalid": framed2(append([]byte{9, 1, 1}, make([]byte, 257)...))} {
		s := boot(t)
		got, out := Feed(s, slices.Concat(pipe, bad, pipe, pipe))
		if !bytes.Equal(out, slices.Concat(first, formError)) || !got.Over || !got.Stream.Dead || len(got.Stream.Have) != 0 || !Check(got) {
			t.Error(name, out, got.Stream)
		}
		if handles, _, _ := Held(got); handles != 5 {
			t.Error(name, handles)
		}
		if again, out := Feed(got, pipe); len(out) != 0 || !sameSession(again, got) {
			t.Error(name, out)
		}
	}
	got, out := Feed(boot(t), slices.Concat([]byte{0, 1, 0}, []byte{0, 0}))
	if !bytes.Equal(out, formError) || !got.Over {
		t.Error("only one error is sent", out)
	}
}

func framed2(body []byte) []byte {
	f, _ := frame.Put(body)
	return f
}

func spawn(fd int) api.Req {
	return api.Req{Op: api.OpSpawn, Path: "/echo", Args: []string{"echo", "x"}, Fds: []int{-1, fd, -1}}
}

// P23.2: a pump uses as many choices as it performs steps.
func TestChoice(t *testing.T) {
	s := boot(t, 1, 1, 0, 7, 8, 9)
	s, _ = Feed(s, framed(t, spawn(1), spawn(2)))
	s, _ = Feed(s, framed(t, api.Req{Op: api.OpPump, N: 2}))
	if !slices.Equal(s.Choice, []int{0, 7, 8, 9}) || string(s.Broker.Kern.Err) != "x\n" || len(s.Broker.Kern.Out) != 0 {
		t.Error(s.Choice)
	}
	s, _ = Feed(s, framed(t, api.Req{Op: api.OpPump, N: 1001}))
	if !slices.Equal(s.Choice, []int{0, 7, 8, 9}) {
		t.Error(s.Choice)
	}
	asked, rep := Ask(s, api.Req{Op: api.OpPump, N: 100})
	if rep.N != 2 || !slices.Equal(asked.Choice, []int{8, 9}) {
		t.Error(rep, asked.Choice)
	}
	s, _ = Feed(s, framed(t, api.Req{Op: api.OpPump, N: 100}))
	if !sameSession(s, asked) {
		t.Error(s.Choice)
	}
	none := boot(t, 5)
	none, _ = Feed(none, framed(t, spawn(1)))
	none, _ = Feed(none, framed(t, api.Req{Op: api.OpPump, N: 100}))
	if len(none.Choice) != 0 {
		t.Error(none.Choice)
	}
}

// P23.3
func TestAsk(t *testing.T) {
	requests := []api.Req{
		{Op: api.OpPipe}, {Op: api.OpOpen, Path: "/a", Flags: 3}, {Op: api.OpRead, H: 5, N: 3}, {Op: api.OpStat, Path: "q"}, {Op: api.OpReaddir, Path: "/"}, {Op: api.OpRead, H: 5, N: -1}, {Op: api.OpClose, H: 99}, {Op: api.OpWrite, H: 1, Data: []byte("x")}, {Op: api.OpRead, H: 0}, spawn(1), {Op: api.OpPump, N: 5}, {Op: api.OpWait, N: 1},
	}
	asked, fed := boot(t, 1, 2, 3), boot(t, 1, 2, 3)
	for _, r := range requests {
		var out []byte
		var rep api.Rep
		asked, rep = Ask(asked, r)
		fed, out = Feed(fed, framed(t, r))
		want, e := proto.DecodeRep(r.Op, out[2:])
		if e != api.OK || !reflect.DeepEqual(rep, want) || !sameSession(asked, fed) || !Check(asked) {
			t.Errorf("%+v: %+v; want %+v", r, rep, want)
		}
	}
}

// P23.3
func TestAskErrors(t *testing.T) {
	pipe := api.Req{Op: api.OpPipe}
	big := api.Req{Op: api.OpSpawn, Args: slices.Repeat([]string{strings.Repeat("x", 256)}, 16), Fds: []int{0, 1, 2}}
	half := boot(t)
	half.Stream.Have = []byte{0}
	over := boot(t)
	over.Over = true
	cases := []struct {
		s    api.Session
		r    api.Req
		want api.Errno
	}{
		{over, pipe, api.ErrClosed}, {over, api.Req{}, api.ErrClosed}, {boot(t), api.Req{}, api.ErrArg}, {boot(t), api.Req{Op: api.OpPipe, N: 1}, api.ErrArg}, {boot(t), big, api.ErrArg}, {half, api.Req{}, api.ErrArg}, {half, big, api.ErrArg}, {half, pipe, api.ErrAgain},
	}
	for _, s := range invalid(t) {
		cases = append(cases, struct {
			s    api.Session
			r    api.Req
			want api.Errno
		}{s, pipe, api.ErrClosed})
	}
	broken := clone.Session(half)
	broken.Broker.Kern.Pids = -1
	cases = append(cases, struct {
		s    api.Session
		r    api.Req
		want api.Errno
	}{broken, api.Req{}, api.ErrClosed})
	for _, c := range cases {
		got, rep := Ask(c.s, c.r)
		if !reflect.DeepEqual(rep, api.Rep{Err: c.want}) || !sameSession(got, c.s) {
			t.Errorf("%.80v: %+v; want %d", c.r, rep, c.want)
		}
	}
	big.Args = big.Args[:15]
	if _, rep := Ask(boot(t), big); rep.Err != api.ErrNoEnt {
		t.Error(rep)
	}
}

// P23.3
func TestHeld(t *testing.T) {
	s := boot(t)
	s, _ = Feed(s, framed(t, api.Req{Op: api.OpPipe}, spawn(1), spawn(1), api.Req{Op: api.OpKill, N: 1}))
	s, _ = Feed(s, []byte{0, 5, 1})
	if h, c, b := Held(s); h != 5 || c != 2 || b != 3 {
		t.Error(h, c, b)
	}
	s.Broker.Kern.Pids = -1
	if h, c, b := Held(s); h != 5 || c != 2 || b != 3 {
		t.Error(h, c, b)
	}
	if h, c, b := Held(api.Session{}); h != 0 || c != 0 || b != 0 {
		t.Error(h, c, b)
	}
}

// P23.4
func TestChunking(t *testing.T) {
	in := framed(t, api.Req{Op: api.OpPipe}, api.Req{Op: api.OpOpen, Path: "/a", Flags: 3}, api.Req{Op: api.OpWrite, H: 5, Data: []byte("some text")}, spawn(4), api.Req{Op: api.OpPump, N: 3}, api.Req{Op: api.OpRead, H: 3, N: 9})
	for _, tail := range [][]byte{nil, {0, 9, 1}, {0, 1, 77, 0, 1, 4}, {0, 0, 0, 1, 4}} {
		whole := slices.Concat(in, tail)
		want, wantOut := Feed(boot(t), whole)
		bodies, e := frame.All(wantOut)
		if e != api.OK || len(bodies) != 6+min(1, len(tail)/4) {
			t.Error(len(bodies), e)
		}
		for size := 1; size <= len(whole); size++ {
			s := boot(t)
			var out []byte
			for chunk := range slices.Chunk(whole, size) {
				var some []byte
				s, some = Feed(s, chunk)
				out = append(out, some...)
			}
			if !bytes.Equal(out, wantOut) || !sameSession(s, want) {
				t.Fatalf("chunks of %d", size)
			}
		}
	}
}
