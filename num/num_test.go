package num

import (
	"bytes"
	"math"
	"testing"

	"turnkey/api"
)

// P1.1
func TestPutTakesTheLowBytes(t *testing.T) {
	for _, c := range []struct {
		n    uint64
		size int
		want []byte
	}{
		{258, 2, []byte{1, 2}},
		{258, 1, []byte{2}},
		{0, 3, []byte{0, 0, 0}},
		{1<<64 - 1, 8, bytes.Repeat([]byte{255}, 8)},
		{0x0102030405060708, 8, []byte{1, 2, 3, 4, 5, 6, 7, 8}},
		{1, 0, nil},
		{1, -1, nil},
		{1, 9, nil},
		{1, math.MinInt, nil},
	} {
		if got := Put(c.n, c.size); !bytes.Equal(got, c.want) {
			t.Errorf("Put(%d, %d) = %v", c.n, c.size, got)
		}
	}
}

// P1.1
func TestGetTakesOneToEightBytes(t *testing.T) {
	for _, c := range []struct {
		b    []byte
		want uint64
		err  api.Errno
	}{
		{[]byte{1, 2}, 258, api.OK},
		{[]byte{7}, 7, api.OK},
		{bytes.Repeat([]byte{255}, 8), 1<<64 - 1, api.OK},
		{nil, 0, api.ErrArg},
		{[]byte{}, 0, api.ErrArg},
		{make([]byte, 9), 0, api.ErrArg},
	} {
		if n, e := Get(c.b); n != c.want || e != c.err {
			t.Errorf("Get(%v) = %d, %d", c.b, n, e)
		}
	}
}

// P1.2
func TestParseTakesOnlyWhatDecWrites(t *testing.T) {
	for s, want := range map[string]int{
		"0": 0, "7": 7, "-12": -12,
		"9223372036854775807": math.MaxInt, "-9223372036854775808": math.MinInt,
	} {
		if n, ok := Parse(s); n != want || !ok {
			t.Errorf("Parse(%q) = %d, %v", s, n, ok)
		}
		if Dec(want) != s {
			t.Errorf("Dec(%d) = %q", want, Dec(want))
		}
	}
	for _, s := range []string{"", "-", "-0", "007", "+1", " 1", "1 ", "1_0", "0x1", "9223372036854775808", "-9223372036854775809", "1a", "\x00"} {
		if n, ok := Parse(s); n != 0 || ok {
			t.Errorf("Parse(%q) = %d, %v", s, n, ok)
		}
	}
}

// P1.3
func TestHexAndUnhex(t *testing.T) {
	if Hex([]byte{10, 255, 0}) != "0aff00" || Hex(nil) != "" {
		t.Fatal(Hex([]byte{10, 255, 0}))
	}
	if b, ok := Unhex("0aff00"); !ok || !bytes.Equal(b, []byte{10, 255, 0}) {
		t.Fatal(b, ok)
	}
	if b, ok := Unhex(""); !ok || len(b) != 0 {
		t.Fatal(b, ok)
	}
	for _, s := range []string{"0", "0A", "0g", "g0", "0x", "abc", "/0", ":0", "`0"} {
		if b, ok := Unhex(s); len(b) != 0 || ok {
			t.Errorf("Unhex(%q) = %v, %v", s, b, ok)
		}
	}
}

// P1.4
func TestWrap(t *testing.T) {
	for _, c := range []struct{ n, bits, want int }{
		{200, 8, -56}, {-129, 8, 127}, {127, 8, 127}, {128, 8, -128}, {-128, 8, -128},
		{1, 1, -1}, {2, 1, 0}, {math.MaxInt, 64, math.MaxInt}, {math.MinInt, 64, math.MinInt},
		{1 << 31, 32, -1 << 31}, {math.MinInt, 63, 0},
		{5, 65, 0}, {5, 0, 0}, {5, -1, 0}, {5, math.MinInt, 0},
	} {
		if got := Wrap(c.n, c.bits); got != c.want {
			t.Errorf("Wrap(%d, %d) = %d", c.n, c.bits, got)
		}
	}
}

// P1.5
func TestRoundTrips(t *testing.T) {
	for size := 1; size <= 8; size++ {
		for _, n := range []uint64{0, 1, 127, 128, 255, 1<<(8*size) - 1} {
			if got, e := Get(Put(n, size)); got != n || e != api.OK {
				t.Errorf("%d in %d bytes: %d, %d", n, size, got, e)
			}
		}
	}
	for _, n := range []int{0, 1, -1, 10, -10, 99999, math.MaxInt, math.MinInt} {
		if got, ok := Parse(Dec(n)); got != n || !ok {
			t.Errorf("%d: %d, %v", n, got, ok)
		}
	}
	all := make([]byte, 256)
	for i := range all {
		all[i] = byte(i)
	}
	if got, ok := Unhex(Hex(all)); !ok || !bytes.Equal(got, all) {
		t.Error(got, ok)
	}
}
