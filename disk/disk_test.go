package disk

import (
	"bytes"
	"math"
	"reflect"
	"testing"

	"turnkey/api"
)

func invalidDisks() []api.Disk {
	return []api.Disk{
		{Room: -1}, {Room: 1<<20 + 1}, {Room: 2, Synced: []byte{1, 2}, Pending: []byte{3}}, {Room: 5, Arm: -2}, {Pending: []byte{1}, Arm: -1}, {Room: 1, Arm: math.MinInt},
	}
}

// P9.1
func TestNewAndCheck(t *testing.T) {
	for _, room := range []int{0, 1, 1 << 20} {
		if d, e := New(room); e != api.OK || !Check(d) || !reflect.DeepEqual(d, api.Disk{Room: room, Arm: -1}) {
			t.Error(d, e)
		}
	}
	for _, room := range []int{-1, 1<<20 + 1, math.MinInt, math.MaxInt} {
		if d, e := New(room); e != api.ErrArg || !reflect.DeepEqual(d, api.Disk{}) {
			t.Error(d, e)
		}
	}
	for _, d := range []api.Disk{{}, {Room: 3, Synced: []byte{1, 2}, Pending: []byte{3}}, {Arm: 7}, {Dead: true}} {
		if !Check(d) {
			t.Errorf("%+v is valid", d)
		}
	}
	for _, d := range invalidDisks() {
		if Check(d) {
			t.Errorf("%+v is not valid", d)
		}
	}
}

// P9.1: an invalid disk comes back as it is.
func TestInvalidDisks(t *testing.T) {
	for _, d := range invalidDisks() {
		a, e1 := Append(d, []byte{1})
		b, e2 := Sync(d)
		c, e3 := Cut(d, 0)
		if e1 != api.ErrArg || e2 != api.ErrArg || e3 != api.ErrArg {
			t.Errorf("%+v: %d, %d, %d", d, e1, e2, e3)
		}
		for _, got := range []api.Disk{a, b, c, Crash(d, 9), Arm(d, 9)} {
			if !reflect.DeepEqual(got, d) {
				t.Errorf("%+v became %+v", d, got)
			}
		}
	}
}

// P9.2
func TestAppendAndSync(t *testing.T) {
	d := api.Disk{Room: 4, Arm: -1}
	d1, e := Append(d, []byte{1, 2})
	if e != api.OK || !reflect.DeepEqual(d1, api.Disk{Room: 4, Pending: []byte{1, 2}, Arm: -1}) {
		t.Fatal(d1, e)
	}
	d2, e := Sync(d1)
	if e != api.OK || !reflect.DeepEqual(d2, api.Disk{Room: 4, Synced: []byte{1, 2}, Arm: -1}) {
		t.Fatal(d2, e)
	}
	d3, e := Append(d2, []byte{3, 4})
	if e != api.OK || !bytes.Equal(d3.Pending, []byte{3, 4}) {
		t.Fatal(d3, e)
	}
	if d4, e := Append(d3, []byte{5}); e != api.ErrFull || !reflect.DeepEqual(d4, d3) {
		t.Fatal(d4, e)
	}
	if d4, e := Append(d3, nil); e != api.OK || !reflect.DeepEqual(d4, d3) {
		t.Fatal(d4, e)
	}
	d3.Pending[0] = 77
	if d5, _ := Sync(d3); d2.Synced[0] != 1 || !bytes.Equal(d5.Synced, []byte{1, 2, 77, 4}) {
		t.Fatal(d5)
	}
}

// P9.2: both the decrease of Arm and what the operation changed are in the disk that comes back, and the disk handed in stays as it was.
func TestChangesComeBackTogether(t *testing.T) {
	for arm, left := range map[int]int{-1: -1, 3: 2} {
		d := api.Disk{Room: 10, Synced: []byte{9}, Pending: []byte{1}, Arm: arm}
		got, e := Append(d, []byte{2})
		if e != api.OK || !reflect.DeepEqual(got, api.Disk{Room: 10, Synced: []byte{9}, Pending: []byte{1, 2}, Arm: left}) {
			t.Errorf("Append with Arm %d: %+v, %d", arm, got, e)
		}
		got, e = Sync(d)
		if e != api.OK || !reflect.DeepEqual(got, api.Disk{Room: 10, Synced: []byte{9, 1}, Arm: left}) {
			t.Errorf("Sync with Arm %d: %+v, %d", arm, got, e)
		}
		if !reflect.DeepEqual(d, api.Disk{Room: 10, Synced: []byte{9}, Pending: []byte{1}, Arm: arm}) {
			t.Errorf("Arm %d: the disk handed in became %+v", arm, d)
		}
	}
}

// P9.2
func TestPower(t *testing.T) {
	d := api.Disk{Room: 1, Arm: 2}
	d, e := Append(d, []byte{1})
	if e != api.OK || d.Arm != 1 {
		t.Fatal(d, e)
	}
	d, e = Append(d, []byte{2})
	if e != api.ErrFull || d.Arm != 0 || !bytes.Equal(d.Pending, []byte{1}) {
		t.Fatal(d, e)
	}
	want := api.Disk{Room: 1, Pending: []byte{1}, Dead: true}
	for _, call := range []func() (api.Disk, api.Errno){
		func() (api.Disk, api.Errno) { return Sync(d) },
		func() (api.Disk, api.Errno) { return Append(d, []byte{9, 9}) },
		func() (api.Disk, api.Errno) { return Sync(want) },
		func() (api.Disk, api.Errno) { return Append(want, nil) },
	} {
		if got, e := call(); e != api.ErrAudit || !reflect.DeepEqual(got, want) {
			t.Fatal(got, e)
		}
	}
	dead := api.Disk{Room: 1, Dead: true, Arm: 5}
	if got, e := Sync(dead); e != api.ErrAudit || !reflect.DeepEqual(got, dead) {
		t.Fatal(got, e)
	}
}

// P9.3
func TestCrash(t *testing.T) {
	d := api.Disk{Room: 9, Synced: []byte{1}, Pending: []byte{2, 3}, Dead: true, Arm: 4}
	for keep, want := range map[int][]byte{-1: {1}, 0: {1}, 1: {1, 2}, 2: {1, 2, 3}, 3: {1, 2, 3}, math.MaxInt: {1, 2, 3}, math.MinInt: {1}} {
		if got := Crash(d, keep); !reflect.DeepEqual(got, api.Disk{Room: 9, Synced: want, Arm: -1}) {
			t.Errorf("keep %d: %+v", keep, got)
		}
	}
}

// P9.3
func TestCut(t *testing.T) {
	d := api.Disk{Room: 9, Synced: []byte{1, 2, 3}, Arm: 0}
	for _, n := range []int{0, 1, 3} {
		if got, e := Cut(d, n); e != api.OK || len(got.Synced) != n || got.Arm != 0 || got.Room != 9 {
			t.Error(n, got, e)
		}
	}
	for _, n := range []int{-1, 4, math.MinInt, math.MaxInt} {
		if got, e := Cut(d, n); e != api.ErrArg || !reflect.DeepEqual(got, d) {
			t.Error(n, got, e)
		}
	}
	for _, bad := range []api.Disk{{Room: 9, Synced: []byte{1}, Pending: []byte{2}}, {Room: 9, Synced: []byte{1}, Dead: true}} {
		if got, e := Cut(bad, 0); e != api.ErrArg || !reflect.DeepEqual(got, bad) {
			t.Error(got, e)
		}
	}
}

// P9.3
func TestArm(t *testing.T) {
	for n, want := range map[int]int{0: 0, 5: 5, -1: -1, -9: -1, math.MinInt: -1, math.MaxInt: math.MaxInt} {
		if got := Arm(api.Disk{Room: 2, Synced: []byte{1}}, n); !reflect.DeepEqual(got, api.Disk{Room: 2, Synced: []byte{1}, Arm: want}) {
			t.Error(n, got)
		}
	}
}

// P9.4
func TestDurability(t *testing.T) {
	for power := range 6 {
		for keep := range 4 {
			d := Arm(api.Disk{Room: 100}, power)
			var safe []byte
			for i := range 3 {
				d, _ = Append(d, []byte{byte(i)})
				var e api.Errno
				if d, e = Sync(d); e == api.OK {
					safe = append(safe, byte(i))
				}
			}
			if after := Crash(d, keep); !bytes.HasPrefix(after.Synced, safe) || !Check(after) {
				t.Errorf("power %d, keep %d: %v of %v", power, keep, after.Synced, safe)
			}
		}
	}
	d, _ := New(9)
	d, _ = Append(d, []byte{1, 2})
	d, _ = Sync(d)
	d, _ = Append(d, []byte{3, 4})
	if got := Crash(d, 1); !bytes.Equal(got.Synced, []byte{1, 2, 3}) {
		t.Error(got)
	}
}
