package record

import (
	"bytes"
	"math"
	"reflect"
	"strings"
	"testing"

	"turnkey/api"
)

var digest = bytes.Repeat([]byte{0xab}, 32)

func valid() []api.Record {
	return []api.Record{
		{Seq: 1, Op: api.OpUnlink, Path: "/a"}, {Op: api.OpOpen, Allow: true}, {Seq: math.MaxInt32, Op: api.OpStat, Path: strings.Repeat("p", 256)},
		{Seq: 2, Op: api.OpRename, Path: "/a", Path2: strings.Repeat("q", 256), Allow: true}, {Seq: 3, Op: api.OpRename},
		{Seq: 4, Op: api.OpSpawn, Path: "/bin/x", Digest: digest}, {Op: api.OpWrite}, {Op: api.OpChdir}, {Op: api.OpReaddir}, {Op: api.OpMkdir, Path: "a\x00\n"},
	}
}

func invalidOnes() []api.Record {
	long := strings.Repeat("p", 257)
	return []api.Record{
		{}, {Op: api.OpClose}, {Op: api.OpPump}, {Op: -1}, {Op: 17}, {Op: 257}, {Seq: -1, Op: api.OpOpen}, {Seq: math.MaxInt32 + 1, Op: api.OpOpen},
		{Op: api.OpOpen, Path: long}, {Op: api.OpRename, Path2: long}, {Op: api.OpOpen, Path2: "x"}, {Op: api.OpOpen, Digest: digest},
		{Op: api.OpOpen, Digest: []byte{1}}, {Op: api.OpSpawn}, {Op: api.OpSpawn, Digest: digest[:31]}, {Op: api.OpSpawn, Digest: append(digest[:32:32], 1)},
	}
}

// P7.1
func TestCheckAndEncode(t *testing.T) {
	for _, r := range valid() {
		if !Check(r) {
			t.Errorf("%+v is valid", r)
		}
	}
	for _, r := range invalidOnes() {
		if Check(r) {
			t.Errorf("%+v is not valid", r)
		}
		if b, e := Encode(r); len(b) != 0 || e != api.ErrArg {
			t.Errorf("%+v: %v, %d", r, b, e)
		}
	}
	for _, c := range []struct {
		r    api.Record
		want []byte
	}{
		{api.Record{Seq: 1, Op: api.OpUnlink, Path: "/a"}, []byte{0, 0, 0, 1, 12, 0, 0, 2, '/', 'a', 0, 0}},
		{api.Record{Seq: 258, Op: api.OpRename, Path: "a", Path2: "bc", Allow: true}, []byte{0, 0, 1, 2, 14, 1, 0, 1, 'a', 0, 2, 'b', 'c'}},
		{api.Record{Op: api.OpSpawn, Digest: digest}, append([]byte{0, 0, 0, 0, 7, 0, 0, 0, 0, 0}, digest...)},
	} {
		if b, e := Encode(c.r); e != api.OK || !bytes.Equal(b, c.want) {
			t.Errorf("%+v: %v, %d", c.r, b, e)
		}
	}
}

// P7.1
func TestDecodeTakesOnlyEncodings(t *testing.T) {
	for _, b := range [][]byte{
		nil, {}, {0, 0, 0, 1, 12, 0}, {0, 0, 0, 1, 12, 2, 0, 0, 0, 0}, {128, 0, 0, 0, 12, 0, 0, 0, 0, 0}, {0, 0, 0, 1, 2, 0, 0, 0, 0, 0}, {0, 0, 0, 1, 0, 0, 0, 0, 0, 0},
		{0, 0, 0, 1, 12, 0, 0, 0, 0, 0, 9}, {0, 0, 0, 1, 12, 0, 0, 0, 0, 1, 'x'}, {0, 0, 0, 1, 7, 0, 0, 0, 0, 0}, {0, 0, 0, 1, 12, 0, 0, 9, 'a', 0, 0},
		append([]byte{0, 0, 0, 1, 7, 0, 0, 0, 0, 0}, digest[:31]...), append(append([]byte{0, 0, 0, 1, 12, 0, 1, 1}, make([]byte, 257)...), 0, 0),
	} {
		if r, e := Decode(b); e != api.ErrForm || !reflect.DeepEqual(r, api.Record{}) {
			t.Errorf("%v: %+v, %d", b, r, e)
		}
	}
}

// P7.2
func TestWord(t *testing.T) {
	want := map[int]string{1: "open", 6: "write", 7: "spawn", 9: "chdir", 10: "stat", 11: "readdir", 12: "unlink", 13: "mkdir", 14: "rename"}
	for op := -2; op < 300; op++ {
		if Word(op) != want[op] {
			t.Errorf("Word(%d) = %q", op, Word(op))
		}
	}
}

// P7.2
func TestLine(t *testing.T) {
	for _, c := range []struct {
		r    api.Record
		want string
	}{
		{api.Record{Seq: 1, Op: api.OpUnlink, Path: "/a"}, "1 deny unlink /a"},
		{api.Record{Op: api.OpOpen, Path: "/a b", Allow: true}, "0 allow open /a b"},
		{api.Record{Seq: 7, Op: api.OpRename, Path: "/a", Path2: "/b"}, "7 deny rename /a /b"},
		{api.Record{Seq: 7, Op: api.OpSpawn, Path: "/x", Digest: digest, Allow: true}, "7 allow spawn /x " + strings.Repeat("ab", 32)},
	} {
		if got := Line(c.r); got != c.want {
			t.Errorf("%+v: %q", c.r, got)
		}
	}
	for _, r := range invalidOnes() {
		if Line(r) != "" {
			t.Errorf("%+v: %q", r, Line(r))
		}
	}
}

// P7.3
func TestRoundTrip(t *testing.T) {
	for _, r := range valid() {
		b, e := Encode(r)
		back, e2 := Decode(b)
		if e != api.OK || e2 != api.OK || !reflect.DeepEqual(back, r) {
			t.Errorf("%+v: %+v, %d, %d", r, back, e, e2)
		}
		for i := range b {
			if _, e := Decode(b[:i]); e != api.ErrForm {
				t.Errorf("%v without its end: %d", b[:i], e)
			}
		}
	}
}
