package ledger

import (
	"math"
	"testing"

	"siskin/api"
	"siskin/book"
	"siskin/disk"
	"siskin/rec"
	"siskin/scan"
)

func accept(job int, needs ...string) api.Rec {
	return api.Rec{Kind: api.Accept, Job: job, Sched: 1, Needs: needs}
}

func bind(job, task, worker, epoch int) api.Rec {
	return api.Rec{Kind: api.Bind, Job: job, Task: task, Worker: worker, Epoch: epoch}
}

func finish(job, task int) api.Rec { return api.Rec{Kind: api.Finish, Job: job, Task: task} }

func own(job, epoch int) api.Rec { return api.Rec{Kind: api.Own, Job: job, Epoch: epoch} }

func on(room int, l ...api.Rec) *disk.Disk {
	d := disk.New(room)
	d.Append(scan.Bytes(l...))
	return d
}

func TestOpen(t *testing.T) {
	log := []api.Rec{accept(5, "*", "gpu"), bind(5, 1, 2, 1), finish(5, 1)}
	d := on(1000, log...)
	d.Append([]byte{3, 5})
	l, e := Open(d, 600)
	want, _ := book.Fold(log...)
	if e != api.OK || !book.Same(l.Book(), want) || l.Len() != 3 || l.Down() || l.Kept() != rec.Most(5, 0, log[0].Needs) || d.Size() != len(scan.Bytes(log...)) {
		t.Error(e, l.Book())
	}
	for i, c := range []struct {
		d    *disk.Disk
		room int
		e    api.Errno
	}{
		{nil, 5, api.ErrArg}, {on(100), -1, api.ErrArg}, {on(100), api.MaxRoom + 1, api.ErrArg}, {on(100), math.MinInt, api.ErrArg}, {on(100), 0, api.OK}, {on(100), api.MaxRoom, api.OK},
		{on(100, finish(5, 0)), 100, api.ErrForm}, {on(100, accept(5, "*"), accept(5, "*")), 100, api.ErrForm}, {on(100, finish(5, 0)), -1, api.ErrArg},
		{on(100, accept(5, "*")), 0, api.OK},
	} {
		if l, e := Open(c.d, c.room); e != c.e || (l == nil) != (e != api.OK) {
			t.Error(i, e)
		}
	}
	torn := on(100, finish(5, 0))
	torn.Append([]byte{3})
	if _, e := Open(torn, 9); e != api.ErrForm || torn.Size() != 8 {
		t.Error("cut all the same", e)
	}
}

func TestPut(t *testing.T) {
	d := on(1000)
	l, _ := Open(d, 1000)
	for i, c := range []struct {
		x api.Rec
		e api.Errno
	}{
		{api.Rec{}, api.ErrArg}, {finish(5, 0), api.ErrNone}, {accept(5, "*", "*"), api.OK}, {accept(5, "*"), api.ErrThere}, {bind(5, 0, 3, 2), api.ErrFence},
		{bind(5, 0, 3, 1), api.OK}, {bind(5, 0, 3, 1), api.ErrBound}, {own(5, 2), api.OK}, {own(5, 2), api.ErrFence}, {finish(5, 1), api.ErrArg}, {finish(5, 0), api.OK},
		{finish(5, 0), api.ErrThere},
	} {
		before, n := l.Book(), l.Len()
		e := l.Put(c.x)
		if e != c.e {
			t.Error(i, e)
		}
		if e != api.OK && (!book.Same(before, l.Book()) || n != l.Len()) || e == api.OK && l.Len() != n+1 {
			t.Error(i, l.Book())
		}
		again, _ := Open(d.Clone(), 1000)
		if !book.Same(again.Book(), l.Book()) || again.Kept() != l.Kept() {
			t.Error(i, "reopened")
		}
	}
	entry, ok := l.Entry(5)
	if !ok || entry.Epoch != 2 || entry.Bound[0] != 4 || !entry.Done[0] {
		t.Error(entry)
	}
	entry.Bound[0] = 9
	l.Book()[0].Bound[0] = 9
	if again, _ := l.Entry(5); again.Bound[0] != 4 {
		t.Error("shares memory")
	}
	if _, ok := l.Entry(6); ok {
		t.Error("entry")
	}
}

func TestRoom(t *testing.T) {
	most := rec.Most(1, 0, []string{"*"})
	l, _ := Open(on(1000), 2*most)
	if l.Put(accept(1, "*")) != api.OK || l.Put(accept(2, "**")) != api.ErrFull || l.Put(accept(1, "**")) != api.ErrThere || l.Put(accept(2, "*")) != api.OK || l.Put(accept(3, "")) != api.ErrFull || l.Kept() != 2*most {
		t.Error(l.Kept())
	}
	empty, _ := Open(on(1000), 0)
	if empty.Put(accept(1, "*")) != api.ErrFull {
		t.Error("room 0")
	}
	small, _ := Open(on(11), 1000)
	if small.Put(accept(1, "*")) != api.OK || small.Put(accept(2, "*")) != api.ErrFull || small.Kept() != most || small.Len() != 1 {
		t.Error("a small disk")
	}
}

func TestSpace(t *testing.T) {
	needs := []string{"*", "gpu", ""}
	most := rec.Most(1, 0, needs) + rec.Most(300, 0, needs)
	l, _ := Open(on(most), most)
	for _, job := range []int{1, 300} {
		if e := l.Put(accept(job, needs...)); e != api.OK {
			t.Fatal(e)
		}
	}
	for _, job := range []int{1, 300} {
		for epoch := 2; epoch <= api.MaxEpoch; epoch++ {
			if e := l.Put(own(job, epoch)); e != api.OK {
				t.Fatal(e)
			}
		}
		for task := range needs {
			if e := l.Put(bind(job, task, 63, api.MaxEpoch)); e != api.OK {
				t.Fatal(e)
			}
			if e := l.Put(finish(job, task)); e != api.OK {
				t.Fatal(e)
			}
		}
	}
	if l.Put(own(1, 10)) != api.ErrArg {
		t.Error("the last epoch")
	}
}

func TestPower(t *testing.T) {
	for fuse := range 12 {
		d := on(1000)
		l, _ := Open(d, 1000)
		l.Put(accept(5, "*"))
		before := l.Book()
		d.Fuse(fuse)
		if l.Put(finish(5, 0)) != api.ErrArg || l.Put(bind(5, 0, 2, 1)) != api.ErrPower || !l.Down() || !book.Same(l.Book(), before) || l.Len() != 1 {
			t.Fatal(fuse)
		}
		if l.Put(bind(5, 0, 2, 1)) != api.ErrDown || l.Put(api.Rec{}) != api.ErrDown {
			t.Fatal("down")
		}
		again, e := Open(d, 1000)
		want := before
		if fuse >= rec.Size(bind(5, 0, 2, 1)) {
			want, _ = book.Step(before, bind(5, 0, 2, 1))
		}
		if e != api.OK || !book.Same(again.Book(), want) || again.Down() {
			t.Fatal(fuse, again.Book())
		}
	}
}

func TestNil(t *testing.T) {
	var l *Ledger
	if _, ok := l.Entry(1); ok || l.Put(accept(1, "*")) != api.ErrArg || len(l.Book()) != 0 || l.Kept() != 0 || !l.Down() || l.Len() != 0 {
		t.Error("nil")
	}
}
