package audit

import (
	"bytes"
	"math"
	"reflect"
	"testing"

	"turnkey/api"
	"turnkey/chain"
	"turnkey/clone"
	"turnkey/disk"
)

func newLog(t *testing.T, room int) api.Log {
	t.Helper()
	d, _ := disk.New(room)
	l, records, e := Open(d)
	if e != api.OK || len(records) != 0 {
		t.Fatal(records, e)
	}
	return l
}

// written returns a log with records of these paths.
func written(t *testing.T, paths ...string) api.Log {
	t.Helper()
	l := newLog(t, 4096)
	for _, p := range paths {
		var e api.Errno
		if l, e = Write(l, api.Record{Seq: 99, Op: api.OpStat, Path: p}); e != api.OK {
			t.Fatal(e)
		}
	}
	return l
}

// P10.1
func TestOpen(t *testing.T) {
	l := written(t, "/a", "/b")
	d := clone.Disk(l.Disk)
	d.Synced = append(d.Synced, 0, 9, 1)
	got, records, e := Open(d)
	if e != api.OK || !reflect.DeepEqual(got, l) || len(records) != 2 || records[1].Path != "/b" || records[1].Seq != 1 {
		t.Errorf("%+v, %v, %d", got, records, e)
	}
	fresh, _ := disk.New(10)
	got, _, _ = Open(fresh)
	if !reflect.DeepEqual(got, api.Log{Disk: fresh, Hash: chain.Root()}) {
		t.Errorf("%+v", got)
	}
	for want, bad := range map[api.Errno][]api.Disk{
		api.ErrArg:   {{Room: -1}, {Room: 9, Pending: []byte{1}}, {Room: 9, Pending: []byte{1}, Dead: true}, {Room: -1, Dead: true}},
		api.ErrAudit: {{Room: 9, Dead: true}},
	} {
		for _, d := range bad {
			if l, records, e := Open(d); e != want || len(records) != 0 || !reflect.DeepEqual(l, api.Log{}) {
				t.Errorf("%+v: %+v, %v, %d", d, l, records, e)
			}
		}
	}
}

func invalidLogs(t *testing.T) []api.Log {
	good := written(t, "/a")
	var out []api.Log
	for _, spoil := range []func(*api.Log){
		func(l *api.Log) { l.Seq = 2 }, func(l *api.Log) { l.Seq = -1 }, func(l *api.Log) { l.Hash[3]++ }, func(l *api.Log) { l.Hash = nil },
		func(l *api.Log) { l.Disk.Room = 3 }, func(l *api.Log) { l.Disk.Synced[5]++ }, func(l *api.Log) { l.Disk.Synced = append(l.Disk.Synced, 0) },
		func(l *api.Log) { l.Disk.Pending = []byte{1} }, func(l *api.Log) { l.Disk.Dead = true }, func(l *api.Log) { l.Disk.Arm = -2 },
		func(l *api.Log) { l.Stop = true; l.Seq = 0 },
	} {
		bad := clone.Log(good)
		spoil(&bad)
		out = append(out, bad)
	}
	return append(out, api.Log{})
}

// P10.2
func TestCheckAndRecords(t *testing.T) {
	good := written(t, "/a", "/b")
	stopped := clone.Log(good)
	stopped.Stop, stopped.Disk.Dead = true, true
	stopped.Disk.Pending = []byte{1}
	stopped.Disk.Synced = append(stopped.Disk.Synced, 7)
	for _, l := range []api.Log{good, stopped, newLog(t, 0)} {
		if !Check(l) || len(Records(l)) != l.Seq {
			t.Errorf("%+v is valid", l)
		}
	}
	if r := Records(good); r[0].Path != "/a" || r[1].Path != "/b" {
		t.Error(r)
	}
	for _, l := range invalidLogs(t) {
		if Check(l) || len(Records(l)) != 0 {
			t.Errorf("%+v is not valid", l)
		}
	}
}

// P10.3
func TestWrite(t *testing.T) {
	l := written(t, "/a")
	r := api.Record{Seq: 77, Op: api.OpStat, Path: "/b"}
	got, e := Write(l, r)
	r.Seq = 1
	entry, hash, _ := chain.Link(l.Hash, r)
	if e != api.OK || got.Seq != 2 || !bytes.Equal(got.Hash, hash) || !bytes.Equal(got.Disk.Synced, append(clone.List(l.Disk.Synced), entry...)) || len(got.Disk.Pending) != 0 {
		t.Fatalf("%+v, %d", got, e)
	}
	if !Check(l) || l.Seq != 1 {
		t.Fatal("the argument was changed")
	}
	for _, bad := range invalidLogs(t) {
		if got, e := Write(bad, r); e != api.ErrArg || !reflect.DeepEqual(got, bad) {
			t.Errorf("%+v: %+v, %d", bad, got, e)
		}
	}
	for _, bad := range []api.Record{{}, {Op: api.OpClose}, {Op: api.OpStat, Path2: "x"}} {
		if got, e := Write(l, bad); e != api.ErrArg || !reflect.DeepEqual(got, l) {
			t.Errorf("%+v: %+v, %d", bad, got, e)
		}
	}
	stopped := clone.Log(l)
	stopped.Stop = true
	for _, r := range []api.Record{r, {}} {
		if got, e := Write(stopped, r); e != api.ErrAudit || !reflect.DeepEqual(got, stopped) {
			t.Errorf("%+v: %+v, %d", r, got, e)
		}
	}
}

// P10.3
func TestFailedWrite(t *testing.T) {
	r := api.Record{Op: api.OpStat, Path: "/b"}
	l := written(t, "/a")
	for power, pending := range map[int]bool{0: false, 1: true} {
		armed := clone.Log(l)
		armed.Disk = disk.Arm(armed.Disk, power)
		got, e := Write(armed, r)
		if e != api.ErrAudit || !got.Stop || !got.Disk.Dead || got.Disk.Arm != 0 || len(got.Disk.Pending) > 0 != pending || got.Seq != 1 || !bytes.Equal(got.Hash, l.Hash) || !Check(got) {
			t.Errorf("power %d: %+v, %d", power, got, e)
		}
		if again, e := Write(got, r); e != api.ErrAudit || !reflect.DeepEqual(again, got) {
			t.Errorf("%+v, %d", again, e)
		}
	}
	full := newLog(t, 60)
	full, e := Write(full, r)
	if e != api.OK {
		t.Fatal(e)
	}
	full.Disk.Arm = 5
	got, e := Write(full, r)
	if e != api.ErrAudit || !got.Stop || got.Disk.Dead || got.Disk.Arm != 4 || len(got.Disk.Pending) != 0 {
		t.Errorf("%+v, %d", got, e)
	}
	if _, e := Write(got, r); e != api.ErrAudit {
		t.Error(e)
	}
}

// P10.4
func TestRecover(t *testing.T) {
	l := written(t, "/a", "/b")
	got, records, e := Recover(l, 5)
	if e != api.OK || !reflect.DeepEqual(got, l) || len(records) != 2 {
		t.Errorf("%+v, %v, %d", got, records, e)
	}
	for _, bad := range invalidLogs(t) {
		if l, records, e := Recover(bad, 0); e != api.ErrArg || len(records) != 0 || !reflect.DeepEqual(l, api.Log{}) {
			t.Errorf("%+v: %+v, %d", bad, l, e)
		}
	}
}

// P10.5
func TestFailClosed(t *testing.T) {
	for power := range 8 {
		for _, keep := range []int{math.MinInt, -1, 0, 1, 20, 45, 46, 47, 1000, math.MaxInt} {
			l := newLog(t, 1000)
			l.Disk = disk.Arm(l.Disk, power)
			var done []string
			var failed []string
			for _, p := range []string{"/a", "/b", "/c", "/d", "/e"} {
				var e api.Errno
				if l, e = Write(l, api.Record{Op: api.OpStat, Path: p}); e == api.OK {
					done = append(done, p)
				} else {
					failed = append(failed, p)
				}
			}
			got, records, e := Recover(l, keep)
			if e != api.OK || len(records) < len(done) || len(records) > len(done)+1 || !Check(got) || got.Stop {
				t.Fatalf("power %d, keep %d: %v of %v, %d", power, keep, records, done, e)
			}
			for i, p := range append(done, failed[:min(1, len(failed))]...) {
				if i < len(records) && records[i].Path != p {
					t.Fatalf("power %d, keep %d: %v", power, keep, records)
				}
			}
		}
	}
}
