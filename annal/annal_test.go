package annal

import (
	"slices"
	"testing"

	"siskin/api"
	"siskin/disk"
	"siskin/rec"
	"siskin/scan"
)

var log = []api.Rec{
	{Kind: api.Accept, Job: 5, Sched: 1, Needs: []string{"gpu", "*"}},
	{Kind: api.Bind, Job: 5, Task: 1, Worker: 2, Epoch: 1},
	{Kind: api.Finish, Job: 5, Task: 2},
}

func on(room int, b []byte) *disk.Disk {
	d := disk.New(room)
	d.Append(b)
	return d
}

func TestOpen(t *testing.T) {
	whole := scan.Bytes(log...)
	for i := range len(whole) + 1 {
		d := on(100, whole[:i])
		a := Open(d)
		want, good := scan.Records(whole[:i])
		if !slices.EqualFunc(a.Records(), want, rec.Same) || a.Len() != len(want) || a.Down() || a.Free() != 100-good {
			t.Fatal(i)
		}
		if string(d.Bytes()) != string(whole[:good]) {
			t.Fatal(i, "not cut")
		}
	}
	if Open(nil) != nil {
		t.Error("nil")
	}
}

func TestAppend(t *testing.T) {
	d := disk.New(30)
	a := Open(d)
	if a.Append(api.Rec{}) != api.ErrArg || a.Append(log[2]) != api.OK || a.Append(log[1]) != api.OK || a.Append(log[0]) != api.ErrFull || a.Append(log[2]) != api.OK {
		t.Error("append")
	}
	if !slices.EqualFunc(a.Records(), []api.Rec{log[2], log[1], log[2]}, rec.Same) || a.Len() != 3 || a.Free() != 4 || a.Down() {
		t.Error(a.Records(), a.Free())
	}
	if string(d.Bytes()) != string(scan.Bytes(log[2], log[1], log[2])) {
		t.Error("the disk itself")
	}
	d.Cut(8)
	if a.Len() != 3 || a.Free() != 22 {
		t.Error("changes by others")
	}
}

func TestPower(t *testing.T) {
	size := len(scan.Bytes(log[1]))
	for fuse := range size + 3 {
		d := on(100, scan.Bytes(log[0]))
		a := Open(d)
		d.Fuse(fuse)
		if e := a.Append(log[1]); e != api.ErrPower || !a.Down() || a.Len() != 1 {
			t.Fatal(fuse, e)
		}
		if a.Append(log[2]) != api.ErrDown || a.Append(api.Rec{}) != api.ErrArg || a.Len() != 1 {
			t.Fatal("down")
		}
		want := 1
		if fuse >= size {
			want = 2
		}
		b := Open(d)
		if !slices.EqualFunc(b.Records(), log[:want], rec.Same) || b.Down() || b.Append(log[2]) != api.OK {
			t.Fatal(fuse, b.Records())
		}
		if c := Open(d); c.Len() != want+1 {
			t.Fatal(fuse, c.Len())
		}
	}
}

func TestPromoted(t *testing.T) {
	a := Open(disk.New(20))
	a.Append(log[2])
	if a.Size() != 8 || string(a.Bytes()) != string(scan.Bytes(log[2])) {
		t.Error("the disk's methods")
	}
}

func TestMemory(t *testing.T) {
	a := Open(disk.New(100))
	x := api.Rec{Kind: api.Accept, Job: 5, Needs: []string{"a", "b"}}
	a.Append(x)
	x.Needs[0] = "x"
	a.Records()[0].Needs[1] = "y"
	if !slices.Equal(a.Records()[0].Needs, []string{"a", "b"}) {
		t.Error(a.Records())
	}
}

func TestNil(t *testing.T) {
	var a *Annal
	if a.Append(log[0]) != api.ErrArg || len(a.Records()) != 0 || a.Len() != 0 || !a.Down() || a.Free() != 0 {
		t.Error("nil")
	}
}
