package chain

import (
	"bytes"
	"reflect"
	"testing"

	"turnkey/api"
	"turnkey/record"
	"turnkey/sha"
)

// linked returns records, the chain of them, and where each entry ends.
func linked(t *testing.T) ([]api.Record, []byte, []int) {
	t.Helper()
	records := []api.Record{
		{Op: api.OpOpen, Path: "/a", Allow: true}, {Seq: 1, Op: api.OpRename, Path: "/a", Path2: "/b"},
		{Seq: 2, Op: api.OpSpawn, Path: "/x", Digest: bytes.Repeat([]byte{7}, 32)}, {Seq: 3, Op: api.OpStat},
	}
	var all []byte
	ends := []int{0}
	digest := Root()
	for _, r := range records {
		entry, next, e := Link(digest, r)
		if e != api.OK {
			t.Fatal(e)
		}
		all, digest = append(all, entry...), next
		ends = append(ends, len(all))
	}
	return records, all, ends
}

// P8.1
func TestLink(t *testing.T) {
	if !bytes.Equal(Root(), make([]byte, 32)) {
		t.Error(Root())
	}
	r := api.Record{Seq: 5, Op: api.OpUnlink, Path: "/a"}
	body, _ := record.Encode(r)
	before := bytes.Repeat([]byte{9}, 32)
	entry, digest, e := Link(before, r)
	want := sha.Chain(before, body)
	if e != api.OK || !bytes.Equal(digest, want) || !bytes.Equal(entry, append(append([]byte{0, byte(len(body))}, body...), want...)) {
		t.Error(entry, digest, e)
	}
	entry[len(entry)-1]++
	if !bytes.Equal(digest, want) {
		t.Error("the digest is shared with the entry")
	}
	for _, c := range []struct {
		before []byte
		r      api.Record
	}{{before[:31], r}, {append(before[:32:32], 1), r}, {nil, r}, {before, api.Record{}}, {before, api.Record{Seq: -1, Op: 1}}} {
		if entry, digest, e := Link(c.before, c.r); len(entry) != 0 || len(digest) != 0 || e != api.ErrArg {
			t.Error(c, entry, digest, e)
		}
	}
}

// P8.2, P8.3
func TestScanOfPrefixes(t *testing.T) {
	records, all, ends := linked(t)
	complete := 0
	digest := Root()
	for n := range len(all) + 1 {
		if complete+1 < len(ends) && n == ends[complete+1] {
			complete++
			digest = all[n-32 : n]
		}
		got, d, end := Scan(all[:n])
		if len(got) != complete || complete > 0 && !reflect.DeepEqual(got, records[:complete]) || !bytes.Equal(d, digest) || end != ends[complete] {
			t.Fatalf("of %d bytes: %v, %d", n, got, end)
		}
		if Verify(all[:n]) != (n == ends[complete]) {
			t.Fatalf("Verify of %d bytes", n)
		}
	}
}

// P8.2
func TestScanStopsAtWhatIsWrong(t *testing.T) {
	_, all, ends := linked(t)
	for i := range all {
		bad := bytes.Clone(all)
		bad[i] ^= 1
		got, _, end := Scan(bad)
		n := 0
		for ends[n+1] <= i {
			n++
		}
		if len(got) != n || end != ends[n] || Verify(bad) {
			t.Fatalf("byte %d: %d records, end %d", i, len(got), end)
		}
	}
	skipped, _, _ := Link(Root(), api.Record{Seq: 1, Op: api.OpStat})
	if got, digest, end := Scan(skipped); len(got) != 0 || end != 0 || !bytes.Equal(digest, Root()) {
		t.Error("a record with another Seq is read")
	}
	twice, _, _ := Link(Root(), api.Record{Op: api.OpStat})
	if got, _, _ := Scan(append(twice, twice...)); len(got) != 1 {
		t.Error("an entry that does not follow the digest is read")
	}
}

// P8.2
func TestHead(t *testing.T) {
	_, all, ends := linked(t)
	for n, want := range ends {
		if got, ok := Head(all, n); got != want || !ok {
			t.Errorf("Head(%d) = %d, %v", n, got, ok)
		}
	}
	for _, n := range []int{-1, 5, 1 << 62} {
		if got, ok := Head(all, n); got != 0 || ok {
			t.Errorf("Head(%d) = %d, %v", n, got, ok)
		}
	}
	if got, ok := Head(nil, 0); got != 0 || !ok {
		t.Error(got, ok)
	}
	if got, ok := Head(all[:len(all)-1], 4); got != 0 || ok {
		t.Error(got, ok)
	}
}
