package proto

import (
	"bytes"
	"math"
	"reflect"
	"strings"
	"testing"

	"turnkey/api"
)

func requestsToTry() []api.Req {
	full := strings.Repeat("p", 256)
	return []api.Req{
		{Op: api.OpOpen, Path: "/a", Flags: 5, N: 6}, {Op: api.OpOpen}, {Op: api.OpOpen, Path: full, Flags: -1, N: math.MinInt32},
		{Op: api.OpClose, H: 3}, {Op: api.OpDup, H: -1}, {Op: api.OpPipe}, {Op: api.OpRead, H: 1, N: math.MaxInt32},
		{Op: api.OpWrite, H: 2, Data: []byte("hi\x00")}, {Op: api.OpWrite, Data: make([]byte, 2048)},
		{Op: api.OpSpawn, Path: "/bin/x", Args: []string{"x", "", full}, Env: []string{"A=1"}, Fds: []int{0, -1, 2}},
		{Op: api.OpSpawn, Args: make([]string, 16), Env: make([]string, 32), Fds: []int{math.MinInt32, 0, math.MaxInt32}},
		{Op: api.OpWait, N: 4}, {Op: api.OpChdir, Path: ".."}, {Op: api.OpStat, Path: "x", Flags: 1}, {Op: api.OpReaddir, Path: "/"},
		{Op: api.OpUnlink, Path: "/a\xff"}, {Op: api.OpMkdir, Path: "/d", N: 7}, {Op: api.OpRename, Path: "/a", Path2: "/b"}, {Op: api.OpKill, N: 1}, {Op: api.OpPump, N: 20},
	}
}

// P6.1, P6.2
func TestEncode(t *testing.T) {
	for _, c := range []struct {
		r    api.Req
		want []byte
	}{
		{api.Req{Op: api.OpClose, H: 3}, []byte{2, 0, 0, 0, 3}},
		{api.Req{Op: api.OpPipe}, []byte{4}},
		{api.Req{Op: api.OpRead, H: -1, N: 258}, []byte{5, 255, 255, 255, 255, 0, 0, 1, 2}},
		{api.Req{Op: api.OpOpen, Path: "/a", Flags: 1, N: 6}, []byte{1, 0, 2, '/', 'a', 0, 0, 0, 1, 0, 0, 0, 6}},
		{api.Req{Op: api.OpWrite, H: 1, Data: []byte("x")}, []byte{6, 0, 0, 0, 1, 0, 1, 'x'}},
		{api.Req{Op: api.OpSpawn, Path: "p", Args: []string{"a", ""}, Env: []string{"E=1"}, Fds: []int{0, -1, 2}},
			[]byte{7, 0, 1, 'p', 2, 0, 1, 'a', 0, 0, 1, 0, 3, 'E', '=', '1', 3, 0, 0, 0, 0, 255, 255, 255, 255, 0, 0, 0, 2}},
		{api.Req{Op: api.OpRename, Path: "a", Path2: "bc"}, []byte{14, 0, 1, 'a', 0, 2, 'b', 'c'}},
		{api.Req{Op: api.OpStat, Path: "a", Flags: 1}, []byte{10, 0, 1, 'a', 0, 0, 0, 1}},
		{api.Req{Op: api.OpMkdir, Path: "a", N: 7}, []byte{13, 0, 1, 'a', 0, 0, 0, 7}},
		{api.Req{Op: api.OpWait, N: 9}, []byte{8, 0, 0, 0, 9}},
	} {
		if got, e := Encode(c.r); e != api.OK || !bytes.Equal(got, c.want) {
			t.Errorf("%+v: %v, %d", c.r, got, e)
		}
	}
}

// P6.2
func TestInvalidRequests(t *testing.T) {
	long := strings.Repeat("p", 257)
	three := []int{0, 1, 2}
	for _, r := range []api.Req{
		{}, {Op: -1}, {Op: 17}, {Op: 258},
		{Op: api.OpOpen, H: 1}, {Op: api.OpOpen, Path2: "x"}, {Op: api.OpOpen, Data: []byte{1}}, {Op: api.OpClose, N: 1}, {Op: api.OpPipe, H: 1}, {Op: api.OpRead, Flags: 1},
		{Op: api.OpWrite, N: 1}, {Op: api.OpWait, H: 1}, {Op: api.OpChdir, N: 1}, {Op: api.OpStat, N: 1}, {Op: api.OpMkdir, Flags: 1}, {Op: api.OpClose, Fds: three}, {Op: api.OpClose, Args: []string{""}}, {Op: api.OpClose, Env: []string{""}},
		{Op: api.OpSpawn, Fds: three, N: 1}, {Op: api.OpUnlink, Path2: "x"},
		{Op: api.OpClose, H: math.MaxInt32 + 1}, {Op: api.OpClose, H: math.MinInt32 - 1}, {Op: api.OpOpen, Flags: 1 << 40}, {Op: api.OpWait, N: math.MaxInt}, {Op: api.OpSpawn, Fds: []int{0, 1, 1 << 32}},
		{Op: api.OpOpen, Path: long}, {Op: api.OpRename, Path2: long}, {Op: api.OpSpawn, Args: []string{long}, Fds: three}, {Op: api.OpSpawn, Env: []string{long}, Fds: three},
		{Op: api.OpWrite, Data: make([]byte, 2049)}, {Op: api.OpSpawn, Args: make([]string, 17), Fds: three}, {Op: api.OpSpawn, Env: make([]string, 33), Fds: three},
		{Op: api.OpSpawn}, {Op: api.OpSpawn, Fds: []int{0, 1}}, {Op: api.OpSpawn, Fds: []int{0, 1, 2, 3}},
	} {
		if Check(r) {
			t.Errorf("%+v is not valid", r)
		}
		if b, e := Encode(r); len(b) != 0 || e != api.ErrArg {
			t.Errorf("%+v: %v, %d", r, b, e)
		}
	}
}

// P6.2
func TestDecodeTakesOnlyEncodings(t *testing.T) {
	for _, b := range [][]byte{
		nil, {}, {0}, {17}, {255}, {4, 0}, {2}, {2, 0, 0, 0}, {2, 0, 0, 0, 3, 0}, {1, 0, 2, '/'}, {9, 1, 1, 'a'}, {9, 1, 1},
		{6, 0, 0, 0, 1, 8, 1}, append([]byte{6, 0, 0, 0, 1, 8, 1}, make([]byte, 2049)...), append([]byte{9, 1, 1}, make([]byte, 257)...),
		{7, 0, 0, 0, 0, 2, 0, 0, 0, 0, 0, 0, 0, 1}, {7, 0, 0, 0, 0, 0}, {7, 0, 0, 17}, {7, 0, 0, 255},
		append(append([]byte{7, 0, 0, 17}, make([]byte, 2*17)...), 0, 3, 0, 0, 0, 0, 0, 0, 0, 0, 0, 0, 0, 0),
		{7, 0, 0, 0, 0, 4, 0, 0, 0, 0, 0, 0, 0, 0, 0, 0, 0, 0, 0, 0, 0, 0},
	} {
		if r, e := Decode(b); e != api.ErrForm || !reflect.DeepEqual(r, api.Req{}) {
			t.Errorf("%v: %+v, %d", b, r, e)
		}
	}
}

// P6.3
func TestEncodeRep(t *testing.T) {
	for _, c := range []struct {
		op   int
		r    api.Rep
		want []byte
	}{
		{api.OpOpen, api.Rep{H: 3}, []byte{0, 0, 0, 0, 3}}, {api.OpDup, api.Rep{H: -1}, []byte{0, 255, 255, 255, 255}},
		{api.OpPipe, api.Rep{H: 3, H2: 4}, []byte{0, 0, 0, 0, 3, 0, 0, 0, 4}},
		{api.OpRead, api.Rep{N: 1, Data: []byte("x")}, []byte{0, 0, 0, 0, 1, 0, 1, 'x'}},
		{api.OpWrite, api.Rep{N: 2}, []byte{0, 0, 0, 0, 2}}, {api.OpSpawn, api.Rep{N: 2}, []byte{0, 0, 0, 0, 2}}, {api.OpWait, api.Rep{N: 2}, []byte{0, 0, 0, 0, 2}}, {api.OpPump, api.Rep{N: 2}, []byte{0, 0, 0, 0, 2}},
		{api.OpStat, api.Rep{N: 1, H: 2, H2: 3}, []byte{0, 0, 0, 0, 1, 0, 0, 0, 2, 0, 0, 0, 3}},
		{api.OpReaddir, api.Rep{Names: []string{"a", "bc"}}, []byte{0, 2, 0, 1, 'a', 0, 2, 'b', 'c'}}, {api.OpReaddir, api.Rep{}, []byte{0, 0}},
		{api.OpClose, api.Rep{}, []byte{0}}, {api.OpChdir, api.Rep{}, []byte{0}}, {api.OpUnlink, api.Rep{}, []byte{0}}, {api.OpMkdir, api.Rep{}, []byte{0}}, {api.OpRename, api.Rep{}, []byte{0}}, {api.OpKill, api.Rep{}, []byte{0}},
		{api.OpStat, api.Rep{Err: 24}, []byte{24}}, {api.OpKill, api.Rep{Err: 255}, []byte{255}},
	} {
		got, e := EncodeRep(c.op, c.r)
		if e != api.OK || !bytes.Equal(got, c.want) {
			t.Errorf("%d %+v: %v, %d", c.op, c.r, got, e)
		}
		if back, e := DecodeRep(c.op, got); e != api.OK || !sameRep(back, c.r) {
			t.Errorf("%d %v: %+v, %d", c.op, got, back, e)
		}
	}
}

func sameRep(a, b api.Rep) bool {
	x, ex := EncodeRep(api.OpRead, api.Rep{Err: a.Err})
	y, ey := EncodeRep(api.OpRead, api.Rep{Err: b.Err})
	return ex == ey && bytes.Equal(x, y) && a.H == b.H && a.H2 == b.H2 && a.N == b.N && bytes.Equal(a.Data, b.Data) && strings.Join(a.Names, "\x00") == strings.Join(b.Names, "\x00") && len(a.Names) == len(b.Names)
}

// P6.3
func TestInvalidReplies(t *testing.T) {
	for _, c := range []struct {
		op int
		r  api.Rep
	}{
		{0, api.Rep{}}, {17, api.Rep{}}, {-1, api.Rep{}}, {api.OpOpen, api.Rep{Err: -1}}, {api.OpOpen, api.Rep{Err: 256}}, {api.OpOpen, api.Rep{Err: api.ErrLine}},
		{api.OpOpen, api.Rep{Err: 2, H: 1}}, {api.OpRead, api.Rep{Err: 2, Data: []byte{1}}}, {api.OpReaddir, api.Rep{Err: 2, Names: []string{""}}},
		{api.OpOpen, api.Rep{N: 1}}, {api.OpOpen, api.Rep{H2: 1}}, {api.OpClose, api.Rep{H: 1}}, {api.OpWrite, api.Rep{H: 1}}, {api.OpWrite, api.Rep{Data: []byte{1}}}, {api.OpStat, api.Rep{Names: []string{"a"}}},
		{api.OpOpen, api.Rep{H: math.MaxInt32 + 1}}, {api.OpWait, api.Rep{N: math.MinInt32 - 1}}, {api.OpPipe, api.Rep{H2: 1 << 31}},
		{api.OpRead, api.Rep{Data: make([]byte, 2049)}}, {api.OpReaddir, api.Rep{Names: make([]string, 256)}}, {api.OpReaddir, api.Rep{Names: []string{strings.Repeat("n", 33)}}},
	} {
		if b, e := EncodeRep(c.op, c.r); len(b) != 0 || e != api.ErrArg {
			t.Errorf("%d %+v: %v, %d", c.op, c.r, b, e)
		}
	}
	for _, c := range []struct {
		op  int
		b   []byte
		err api.Errno
	}{
		{0, []byte{0}, api.ErrArg}, {17, nil, api.ErrArg}, {api.OpOpen, nil, api.ErrForm}, {api.OpOpen, []byte{0}, api.ErrForm}, {api.OpOpen, []byte{2, 0, 0, 0, 1}, api.ErrForm},
		{api.OpClose, []byte{0, 0}, api.ErrForm}, {api.OpOpen, []byte{0, 0, 0, 0, 1, 0}, api.ErrForm}, {api.OpReaddir, append([]byte{0, 1, 0, 33}, make([]byte, 33)...), api.ErrForm},
		{api.OpReaddir, []byte{0, 2, 0, 1, 'a'}, api.ErrForm}, {api.OpRead, append([]byte{0, 0, 0, 0, 1, 8, 1}, make([]byte, 2049)...), api.ErrForm},
	} {
		if r, e := DecodeRep(c.op, c.b); e != c.err || !sameRep(r, api.Rep{}) {
			t.Errorf("%d %v: %+v, %d", c.op, c.b, r, e)
		}
	}
}

// P6.3: the most that there may be.
func TestLargestReplies(t *testing.T) {
	names := make([]string, 255)
	for i := range names {
		names[i] = strings.Repeat("n", 32)
	}
	for op, r := range map[int]api.Rep{
		api.OpReaddir: {Names: names}, api.OpRead: {N: math.MaxInt32, Data: make([]byte, 2048)}, api.OpStat: {N: math.MinInt32, H: math.MaxInt32, H2: -1},
	} {
		b, e := EncodeRep(op, r)
		if e != api.OK {
			t.Fatal(op, e)
		}
		if back, e := DecodeRep(op, b); e != api.OK || !sameRep(back, r) {
			t.Error(op, e)
		}
	}
}

// P6.4
func TestGoverned(t *testing.T) {
	want := map[int]bool{1: true, 6: true, 7: true, 9: true, 10: true, 11: true, 12: true, 13: true, 14: true}
	for op := -2; op < 300; op++ {
		if Governed(op) != want[op] {
			t.Errorf("Governed(%d) = %v", op, Governed(op))
		}
	}
}

// P6.5
func TestRoundTrip(t *testing.T) {
	for _, r := range requestsToTry() {
		b, e := Encode(r)
		if e != api.OK || !Check(r) {
			t.Fatalf("%+v: %d", r, e)
		}
		back, e := Decode(b)
		again, e2 := Encode(back)
		if e != api.OK || e2 != api.OK || !bytes.Equal(again, b) || back.Op != r.Op || back.Path != r.Path || back.H != r.H || back.N != r.N || back.Flags != r.Flags {
			t.Errorf("%+v: %+v, %d", r, back, e)
		}
		for i := range b {
			if _, e := Decode(b[:i]); e != api.ErrForm {
				t.Errorf("%v is a request without its end: %d", b[:i], e)
			}
		}
	}
}
