package boss

import (
	"math"
	"slices"
	"testing"

	"siskin/api"
	"siskin/beat"
	"siskin/book"
	"siskin/disk"
	"siskin/draw"
	"siskin/ledger"
	"siskin/rec"
	"siskin/round"
	"siskin/scan"
)

func cluster() api.Conf {
	return api.Conf{Scheds: 3, Lease: 2, Again: 3, Room: 2000, Out: 4, Workers: []api.Worker{{Slots: 1, Limit: 1}, {Slots: 1, Limit: 1}}}
}

func ledgerOf(l ...api.Rec) (*ledger.Ledger, *disk.Disk) {
	d := disk.New(2000)
	d.Append(scan.Bytes(l...))
	x, _ := ledger.Open(d, 2000)
	return x, d
}

func accept(id, sched int, needs ...string) api.Rec {
	return api.Rec{Kind: api.Accept, Job: id, Sched: sched, Needs: needs}
}

func out(to, kind, id, task, epoch int) api.Out {
	return api.Out{To: to, Msg: api.Msg{Kind: kind, Job: id, Task: task, Epoch: epoch}}
}

func check(t *testing.T, what string, got []api.Out, e api.Errno, want ...api.Out) {
	t.Helper()
	if !slices.Equal(got, want) || e != api.OK {
		t.Errorf("%s: %v %d", what, got, e)
	}
}

var hello = api.Msg{Kind: api.Beat}

func TestNew(t *testing.T) {
	if New(cluster(), 3) != nil || New(cluster(), -1) != nil || New(api.Conf{}, 0) != nil {
		t.Error("no such scheduler")
	}
	b := New(cluster(), 1)
	if !beat.Same(b.Ear(), beat.New(3, 1, 2)) || b.Sched() == nil {
		t.Error(b.Ear())
	}
}

func TestSubmit(t *testing.T) {
	b := New(cluster(), 1)
	l, _ := ledgerOf()
	got, e := b.Submit(l, draw.New(1), api.Job{ID: 5, Needs: []string{"*"}})
	check(t, "submit", got, e, out(9, api.Probe, 5, 0, 1), out(8, api.Probe, 5, 0, 1))
	if _, e := b.Submit(l, nil, api.Job{ID: 5, Needs: []string{"*"}}); e != api.ErrThere {
		t.Error(e)
	}
	if x, _ := l.Entry(5); x.Sched != 1 {
		t.Error(x)
	}
	if r, ok := b.Sched().Round(5); !ok || r.Asked != 3 {
		t.Error(r)
	}
}

func TestTake(t *testing.T) {
	b := New(cluster(), 1)
	l, d := ledgerOf(accept(5, 1, "*"), accept(6, 1, "*"))
	b.Tick(l, nil)
	for _, c := range []struct {
		from int
		m    api.Msg
	}{{3, hello}, {7, hello}, {-1, hello}, {math.MinInt, hello}, {0, api.Msg{Kind: api.Beat, Job: 1}}, {0, api.Msg{Kind: api.Get, Job: 5}}, {8, hello}, {10, api.Msg{Kind: api.Get, Job: 5}},
		{math.MaxInt, hello}, {0, api.Msg{}}, {8, api.Msg{Kind: api.Get}}} {
		got, e := b.Take(l, nil, c.from, c.m)
		check(t, "no effect", got, e)
	}
	if !slices.Equal(b.Ear().Ages, []int{1, 1, 1}) || l.Len() != 2 {
		t.Error(b.Ear(), l.Len())
	}
	got, e := b.Take(l, nil, 2, hello)
	check(t, "beat", got, e)
	if !slices.Equal(b.Ear().Ages, []int{1, 1, 0}) {
		t.Error(b.Ear())
	}
	got, e = b.Take(l, nil, 9, api.Msg{Kind: api.Get, Job: 5})
	check(t, "worker", got, e, out(9, api.Assign, 5, 0, 1), out(8, api.Cancel, 5, 0, 0))
	got, e = b.Take(l, nil, 8, api.Msg{Kind: api.Get, Job: 7})
	check(t, "the first worker", got, e, out(8, api.NoTask, 7, 0, 0))
	d.Fuse(1)
	if got, e := b.Take(l, nil, 9, api.Msg{Kind: api.Get, Job: 6}); got != nil || e != api.ErrPower {
		t.Error(e)
	}
}

func TestTick(t *testing.T) {
	b := New(cluster(), 1)
	l, _ := ledgerOf(accept(3, 2, "*"), accept(4, 1, "*"), accept(5, 0, "*"), accept(6, 0, "*"), api.Rec{Kind: api.Bind, Job: 6, Epoch: 1}, api.Rec{Kind: api.Finish, Job: 6})
	beats := []api.Out{out(0, api.Beat, 0, 0, 0), out(2, api.Beat, 0, 0, 0)}
	got, e := b.Tick(l, draw.New(1))
	check(t, "first", got, e, append([]api.Out{out(9, api.Probe, 4, 0, 1), out(8, api.Probe, 4, 0, 1)}, beats...)...)
	b.Take(l, nil, 2, hello)
	got, e = b.Tick(l, nil)
	check(t, "second", got, e, append([]api.Out{out(8, api.Mine, 5, 0, 2), out(9, api.Mine, 5, 0, 2), out(8, api.Probe, 5, 0, 2), out(9, api.Probe, 5, 0, 2)}, beats...)...)
	for id, want := range map[int][2]int{3: {2, 1}, 4: {1, 1}, 5: {1, 2}, 6: {0, 1}} {
		if x, _ := l.Entry(id); x.Sched != want[0] || x.Epoch != want[1] {
			t.Error(x)
		}
	}
	got, e = b.Tick(l, nil)
	check(t, "third", got, e, append([]api.Out{out(8, api.Mine, 3, 0, 2), out(9, api.Mine, 3, 0, 2), out(8, api.Probe, 3, 0, 2), out(9, api.Probe, 3, 0, 2)}, beats...)...)
}

func TestHeardInTime(t *testing.T) {
	b := New(cluster(), 1)
	l, _ := ledgerOf(accept(5, 0, "*"))
	for range 20 {
		b.Take(l, nil, 0, hello)
		b.Tick(l, nil)
	}
	if x, _ := l.Entry(5); x.Sched != 0 {
		t.Error(x)
	}
	b.Tick(l, nil)
	if x, _ := l.Entry(5); x.Sched != 1 || x.Epoch != 2 {
		t.Error(x)
	}
}

func TestTickFails(t *testing.T) {
	b := New(cluster(), 1)
	l, d := ledgerOf(accept(4, 1, "*"), accept(5, 0, "*"), accept(6, 2, "*"), accept(7, 0, "*"))
	b.Tick(l, nil)
	b.Take(l, nil, 2, hello)
	ear, before := b.Ear(), l.Book()
	r, _ := b.Sched().Round(4)
	d.Fuse(2)
	for _, want := range []api.Errno{api.ErrPower, api.ErrDown} {
		if got, e := b.Tick(l, draw.New(1)); got != nil || e != want {
			t.Error(e)
		}
	}
	after, _ := b.Sched().Round(4)
	if _, ok := b.Sched().Round(5); ok || !round.Same(r, after) || !beat.Same(ear, b.Ear()) || !book.Same(before, l.Book()) {
		t.Error("an effect")
	}
	again, _ := ledger.Open(d, 2000)
	if got, e := b.Tick(again, nil); e != api.OK || len(got) == 0 {
		t.Error(e)
	}
	if x, _ := again.Entry(7); x.Sched != 1 {
		t.Error(x)
	}
}

func TestOtherErrorsAreIgnored(t *testing.T) {
	// Job 5 has had all its epochs, so that an Own of it is refused.
	log := []api.Rec{accept(5, 0, "*"), accept(6, 0, "*")}
	for epoch := 2; epoch <= api.MaxEpoch; epoch++ {
		log = append(log, api.Rec{Kind: api.Own, Job: 5, Sched: 0, Epoch: epoch})
	}
	l, _ := ledgerOf(log...)
	b := New(cluster(), 1)
	b.Tick(l, nil)
	got, e := b.Tick(l, nil)
	if e != api.OK || !slices.Contains(got, out(8, api.Mine, 6, 0, 2)) || slices.Contains(got, out(8, api.Mine, 5, 0, 10)) {
		t.Error(got, e)
	}
	if x, _ := l.Entry(5); x.Sched != 0 || x.Epoch != 9 {
		t.Error(x)
	}
	// A disk without space, to which someone else has written.
	d := disk.New(rec.Size(accept(5, 0, "*")))
	d.Append(scan.Bytes(accept(5, 0, "*")))
	full, _ := ledger.Open(d, 2000)
	b = New(cluster(), 1)
	b.Tick(full, nil)
	if got, e := b.Tick(full, nil); e != api.OK || len(got) != 2 {
		t.Error(got, e)
	}
}

func TestCloneAndMemory(t *testing.T) {
	b := New(cluster(), 1)
	l, _ := ledgerOf(accept(5, 1, "*"))
	c := b.Clone()
	b.Ear().Ages[0] = 2
	b.Sched().Tick(l, nil)
	c.Tick(l, nil)
	if _, ok := b.Sched().Round(5); ok || b.Ear().Ages[0] != 0 {
		t.Error("shares memory")
	}
	if _, ok := c.Sched().Round(5); !ok || c.Ear().Ages[0] != 1 {
		t.Error("clone")
	}
	d := c.Clone()
	x, _ := c.Tick(l, nil)
	y, _ := d.Tick(l, nil)
	if !slices.Equal(x, y) {
		t.Error("unequal")
	}
}

func TestNil(t *testing.T) {
	var b *Boss
	l, _ := ledgerOf()
	one := New(cluster(), 0)
	for i, f := range []func() ([]api.Out, api.Errno){
		func() ([]api.Out, api.Errno) { return b.Submit(l, nil, api.Job{}) }, func() ([]api.Out, api.Errno) { return b.Take(l, nil, 0, hello) }, func() ([]api.Out, api.Errno) { return b.Tick(l, nil) },
		func() ([]api.Out, api.Errno) { return one.Submit(nil, nil, api.Job{}) }, func() ([]api.Out, api.Errno) { return one.Take(nil, nil, 0, hello) }, func() ([]api.Out, api.Errno) { return one.Tick(nil, nil) },
	} {
		if got, e := f(); got != nil || e != api.ErrArg {
			t.Error(i, e)
		}
	}
	if b.Sched() != nil || b.Clone() != nil || !beat.Same(b.Ear(), beat.Ear{}) || one.Ear().Ages[0] != 0 {
		t.Error("nil")
	}
}
