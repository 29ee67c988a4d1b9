package frame

import (
	"bytes"
	"slices"
	"testing"

	"turnkey/api"
)

func framed(t *testing.T, bodies ...[]byte) []byte {
	t.Helper()
	var out []byte
	for _, b := range bodies {
		f, e := Put(b)
		if e != api.OK {
			t.Fatal(e)
		}
		out = append(out, f...)
	}
	return out
}

func same(a, b [][]byte) bool { return slices.EqualFunc(a, b, bytes.Equal) }

// P5.1
func TestPut(t *testing.T) {
	if f, e := Put([]byte{65}); e != api.OK || !bytes.Equal(f, []byte{0, 1, 65}) {
		t.Error(f, e)
	}
	if f, e := Put(make([]byte, 4096)); e != api.OK || len(f) != 4098 || f[0] != 16 || f[1] != 0 {
		t.Error(e)
	}
	for _, b := range [][]byte{nil, {}, make([]byte, 4097), make([]byte, 70000)} {
		if f, e := Put(b); len(f) != 0 || e != api.ErrArg {
			t.Errorf("%d bytes: %d", len(b), e)
		}
	}
}

// P5.2
func TestCheck(t *testing.T) {
	for _, c := range []struct {
		s    api.Stream
		want bool
	}{
		{api.Stream{}, true}, {api.Stream{Dead: true}, true}, {api.Stream{Have: []byte{}, Dead: true}, true},
		{api.Stream{Have: []byte{0}}, true}, {api.Stream{Have: []byte{255}}, true}, {api.Stream{Have: []byte{0, 1}}, true}, {api.Stream{Have: []byte{0, 2, 9}}, true},
		{api.Stream{Have: []byte{16, 0}}, true}, {api.Stream{Have: append([]byte{16, 0}, make([]byte, 4095)...)}, true},
		{api.Stream{Have: []byte{0, 0}}, false}, {api.Stream{Have: []byte{16, 1}}, false}, {api.Stream{Have: []byte{0, 1, 9}}, false}, {api.Stream{Have: []byte{0, 1, 9, 0}}, false},
		{api.Stream{Have: []byte{0}, Dead: true}, false},
	} {
		if got := Check(c.s); got != c.want {
			t.Errorf("Check(%v) = %v", c.s, got)
		}
	}
}

// P5.2
func TestFeed(t *testing.T) {
	for _, c := range []struct {
		s      api.Stream
		b      []byte
		want   api.Stream
		bodies [][]byte
		err    api.Errno
	}{
		{api.Stream{}, []byte{0, 1, 65, 0}, api.Stream{Have: []byte{0}}, [][]byte{{65}}, api.OK},
		{api.Stream{}, nil, api.Stream{}, nil, api.OK},
		{api.Stream{Have: []byte{0}}, []byte{2, 7}, api.Stream{Have: []byte{0, 2, 7}}, nil, api.OK},
		{api.Stream{Have: []byte{0, 2, 7}}, []byte{8, 0, 1, 9}, api.Stream{}, [][]byte{{7, 8}, {9}}, api.OK},
		{api.Stream{}, []byte{0, 1, 65, 0, 0, 0, 1, 66}, api.Stream{Dead: true}, [][]byte{{65}}, api.ErrForm},
		{api.Stream{}, []byte{16, 1}, api.Stream{Dead: true}, nil, api.ErrForm},
		{api.Stream{Dead: true}, []byte{0, 1, 65}, api.Stream{Dead: true}, nil, api.ErrClosed},
		{api.Stream{Have: []byte{0, 0}}, []byte{1}, api.Stream{Have: []byte{0, 0}}, nil, api.ErrArg},
		{api.Stream{Have: []byte{1}, Dead: true}, []byte{1}, api.Stream{Have: []byte{1}, Dead: true}, nil, api.ErrArg},
	} {
		have := slices.Clone(c.s.Have)
		s, bodies, e := Feed(c.s, c.b)
		if e != c.err || s.Dead != c.want.Dead || !bytes.Equal(s.Have, c.want.Have) || !same(bodies, c.bodies) {
			t.Errorf("Feed(%v, %v) = %v, %v, %d", c.s, c.b, s, bodies, e)
		}
		for _, l := range append(bodies, s.Have) {
			for i := range l {
				l[i]++
			}
			_ = append(l, 99)
		}
		if !bytes.Equal(c.s.Have, have) {
			t.Errorf("Feed(%v) shares its argument", c.s)
		}
	}
}

// P5.2: what is appended to one body is not seen in another.
func TestBodiesAreTheirOwn(t *testing.T) {
	_, bodies, _ := Feed(api.Stream{}, framed(t, []byte{1}, []byte{2}))
	_ = append(bodies[0], 9, 9, 9)
	if bodies[1][0] != 2 {
		t.Error(bodies)
	}
}

// P5.3
func TestAll(t *testing.T) {
	for _, c := range []struct {
		b      []byte
		bodies [][]byte
		err    api.Errno
	}{
		{nil, nil, api.OK}, {[]byte{0, 1, 65, 0, 2, 1, 2}, [][]byte{{65}, {1, 2}}, api.OK},
		{[]byte{0}, nil, api.ErrShort}, {[]byte{0, 1, 65, 0}, nil, api.ErrShort}, {[]byte{0, 1, 65, 0, 2, 1}, nil, api.ErrShort},
		{[]byte{0, 0}, nil, api.ErrForm}, {[]byte{0, 1, 65, 16, 1}, nil, api.ErrForm}, {[]byte{255, 255, 1}, nil, api.ErrForm},
	} {
		if bodies, e := All(c.b); e != c.err || !same(bodies, c.bodies) {
			t.Errorf("All(%v) = %v, %d", c.b, bodies, e)
		}
	}
}

// P5.4
func TestChunking(t *testing.T) {
	whole := append(framed(t, []byte("a"), bytes.Repeat([]byte("b"), 300), []byte("cc")), 0, 5, 1)
	_, want, _ := Feed(api.Stream{}, whole)
	for size := 1; size <= len(whole); size++ {
		var s api.Stream
		var got [][]byte
		for chunk := range slices.Chunk(whole, size) {
			var bodies [][]byte
			var e api.Errno
			s, bodies, e = Feed(s, chunk)
			if e != api.OK || !Check(s) {
				t.Fatal(size, e)
			}
			got = append(got, bodies...)
		}
		if !same(got, want) || !bytes.Equal(s.Have, []byte{0, 5, 1}) {
			t.Fatalf("in chunks of %d: %v", size, got)
		}
	}
}
