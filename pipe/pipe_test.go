package pipe

import (
	"bytes"
	"math"
	"reflect"
	"testing"

	"turnkey/api"
)

func with(n int, readers int, writers int) api.Pipe {
	p := api.Pipe{Readers: readers, Writers: writers}
	for i := range n {
		p.Data = append(p.Data, byte(i))
	}
	return p
}

func invalid() []api.Pipe {
	return []api.Pipe{with(65, 1, 1), with(0, -1, 1), with(0, 1, -1), with(0, 1001, 1), with(0, 1, 1001), with(0, math.MinInt, math.MaxInt)}
}

// P16.1
func TestCheck(t *testing.T) {
	for _, p := range []api.Pipe{{}, with(64, 1000, 1000), with(0, 0, 0), with(3, 0, 1)} {
		if !Check(p) {
			t.Errorf("%+v is valid", p)
		}
	}
	for _, p := range invalid() {
		w, n, e1 := Write(p, []byte{1})
		r, b, e2 := Read(p, 1)
		o, e3 := Open(p, true, 0)
		if Check(p) || Ready(p, true) || Ready(p, false) || n != 0 || len(b) != 0 || e1 != api.ErrArg || e2 != api.ErrArg || e3 != api.ErrArg {
			t.Errorf("%+v is not valid", p)
		}
		for _, got := range []api.Pipe{w, r, o} {
			if !reflect.DeepEqual(got, p) {
				t.Errorf("%+v became %+v", p, got)
			}
		}
	}
}

// P16.2
func TestWrite(t *testing.T) {
	for _, c := range []struct {
		p    api.Pipe
		b    []byte
		want api.Pipe
		n    int
		err  api.Errno
	}{
		{with(0, 1, 1), []byte{0, 1}, with(2, 1, 1), 2, api.OK}, {with(62, 1, 0), []byte{62, 63, 64}, with(64, 1, 0), 2, api.OK}, {with(0, 1, 1), with(70, 0, 0).Data, with(64, 1, 1), 64, api.OK},
		{with(64, 1, 1), []byte{1}, with(64, 1, 1), 0, api.ErrAgain}, {with(64, 1, 1), nil, with(64, 1, 1), 0, api.OK}, {with(64, 0, 1), nil, with(64, 0, 1), 0, api.ErrPipe}, {with(0, 0, 1), []byte{1}, with(0, 0, 1), 0, api.ErrPipe},
	} {
		if p, n, e := Write(c.p, c.b); n != c.n || e != c.err || !reflect.DeepEqual(p, c.want) {
			t.Errorf("Write(%+v, %v) = %+v, %d, %d", c.p, c.b, p, n, e)
		}
	}
}

// P16.2
func TestRead(t *testing.T) {
	for _, c := range []struct {
		p    api.Pipe
		n    int
		left int
		data []byte
		err  api.Errno
	}{
		{with(3, 1, 1), 2, 1, []byte{0, 1}, api.OK}, {with(3, 0, 0), 9, 0, []byte{0, 1, 2}, api.OK}, {with(3, 1, 1), math.MaxInt, 0, []byte{0, 1, 2}, api.OK},
		{with(0, 1, 1), 1, 0, nil, api.ErrAgain}, {with(0, 1, 0), 1, 0, nil, api.OK}, {with(0, 1, 1), 0, 0, nil, api.OK}, {with(3, 1, 1), 0, 3, nil, api.OK}, {with(0, 1, 1), -1, 0, nil, api.ErrArg}, {with(3, 1, 1), math.MinInt, 3, nil, api.ErrArg},
	} {
		p, data, e := Read(c.p, c.n)
		if e != c.err || !bytes.Equal(data, c.data) || len(p.Data) != c.left || p.Readers != c.p.Readers || p.Writers != c.p.Writers {
			t.Errorf("Read(%+v, %d) = %+v, %v, %d", c.p, c.n, p, data, e)
		}
	}
	p := with(3, 1, 1)
	got, data, _ := Read(p, 1)
	data = append(data, 99)
	data[0], got.Data[0] = 88, 77
	if !reflect.DeepEqual(p, with(3, 1, 1)) || got.Data[1] != 2 {
		t.Error("shared")
	}
}

// P16.3
func TestOpen(t *testing.T) {
	for _, c := range []struct {
		p      api.Pipe
		writer bool
		by     int
		want   api.Pipe
		err    api.Errno
	}{
		{with(1, 0, 0), true, 1, with(1, 0, 1), api.OK}, {with(1, 0, 0), false, 2, with(1, 2, 0), api.OK}, {with(1, 1, 1), true, -1, with(1, 1, 0), api.OK}, {with(1, 0, 0), true, 1000, with(1, 0, 1000), api.OK}, {with(0, 1000, 0), false, -1000, with(0, 0, 0), api.OK},
		{with(1, 0, 1), false, -1, with(1, 0, 1), api.ErrArg}, {with(1, 1, 1), true, 1000, with(1, 1, 1), api.ErrArg}, {with(1, 1, 1), true, math.MaxInt, with(1, 1, 1), api.ErrArg}, {with(1, 1, 1), false, math.MinInt, with(1, 1, 1), api.ErrArg},
	} {
		if p, e := Open(c.p, c.writer, c.by); e != c.err || !reflect.DeepEqual(p, c.want) {
			t.Errorf("Open(%+v, %v, %d) = %+v, %d", c.p, c.writer, c.by, p, e)
		}
	}
}

// P16.3
func TestReady(t *testing.T) {
	for _, n := range []int{0, 1, 64} {
		for ends := range 4 {
			p := with(n, ends&1, ends>>1)
			_, _, write := Write(p, []byte{1})
			_, _, read := Read(p, 1)
			if Ready(p, true) != (write != api.ErrAgain) || Ready(p, false) != (read != api.ErrAgain) {
				t.Errorf("%+v", p)
			}
		}
	}
}

// P16.4
func TestBytesAreReadInOrder(t *testing.T) {
	p := with(0, 1, 1)
	var in, out []byte
	for i := range 500 {
		b := bytes.Repeat([]byte{byte(i)}, i%13)
		q, n, _ := Write(p, b)
		in = append(in, b[:n]...)
		q, data, _ := Read(q, i%11)
		p, out = q, append(out, data...)
	}
	out = append(out, p.Data...)
	if len(in) < 1000 || !bytes.Equal(in, out) {
		t.Error(len(in), len(out))
	}
}
