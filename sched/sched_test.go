package sched

import (
	"math"
	"math/rand"
	"slices"
	"testing"

	"siskin/api"
	"siskin/book"
	"siskin/disk"
	"siskin/draw"
	"siskin/flock"
	"siskin/job"
	"siskin/ledger"
	"siskin/round"
)

func cluster() api.Conf {
	return api.Conf{Scheds: 3, Lease: 5, Again: 3, Room: 2000, Out: 4, Names: []string{"gpu"},
		Workers: []api.Worker{{Slots: 1, Limit: 1, Attrs: 1}, {Slots: 1, Limit: 1}, {Slots: 1, Limit: 1, Attrs: 1}, {Slots: 1, Limit: 1}}}
}

func ledgerOf(l ...api.Rec) (*ledger.Ledger, *disk.Disk) {
	d := disk.New(2000)
	x, _ := ledger.Open(d, 2000)
	for _, r := range l {
		x.Put(r)
	}
	return x, d
}

func of(id int, needs ...string) api.Job { return api.Job{ID: id, Needs: needs} }

func accept(id, sched int, needs ...string) api.Rec {
	return api.Rec{Kind: api.Accept, Job: id, Sched: sched, Needs: needs}
}

func bind(id, task, worker int) api.Rec {
	return api.Rec{Kind: api.Bind, Job: id, Task: task, Worker: worker, Epoch: 1}
}

func msgOf(kind, id, task int) api.Msg { return api.Msg{Kind: kind, Job: id, Task: task} }

func out(worker, kind, id, task, epoch int) api.Out {
	return api.Out{To: 8 + worker, Msg: api.Msg{Kind: kind, Job: id, Task: task, Epoch: epoch}}
}

func check(t *testing.T, what string, got []api.Out, e api.Errno, want ...api.Out) {
	t.Helper()
	if !slices.Equal(got, want) || e != api.OK {
		t.Errorf("%s: %v %d", what, got, e)
	}
}

func TestNew(t *testing.T) {
	bad := cluster()
	bad.Out = 0
	if New(cluster(), 3) != nil || New(cluster(), -1) != nil || New(bad, 0) != nil || New(cluster(), 2) == nil || New(cluster(), math.MinInt) != nil {
		t.Error("new")
	}
	c := cluster()
	s := New(c, 0)
	c.Workers[1].Attrs, c.Workers[3].Attrs, c.Names[0] = 1, 1, "x"
	l, _ := ledgerOf()
	got, e := s.Submit(l, nil, of(5, "gpu", "gpu"))
	check(t, "the configuration is copied", got, e, out(0, api.Probe, 5, 0, 1), out(2, api.Probe, 5, 0, 1))
}

func TestExample(t *testing.T) {
	c := cluster()
	c.Workers = c.Workers[:1]
	s := New(c, 0)
	l, _ := ledgerOf()
	got, e := s.Submit(l, nil, of(5, "*"))
	check(t, "submit", got, e, out(0, api.Probe, 5, 0, 1))
	got, e = s.Take(l, nil, 0, msgOf(api.Get, 5, 0))
	check(t, "get", got, e, out(0, api.Assign, 5, 0, 1))
	if entry, _ := l.Entry(5); entry.Bound[0] != 1 {
		t.Error("bound")
	}
}

func TestSubmit(t *testing.T) {
	s := New(cluster(), 1)
	l, d := ledgerOf(accept(7, 0, "*"))
	tape := draw.New(1, 2, 3, 4, 5, 6)
	for i, c := range []struct {
		j api.Job
		e api.Errno
	}{{of(0, "*"), api.ErrArg}, {of(5), api.ErrEmpty}, {of(5, "tpu"), api.ErrName}, {of(7, "gpu & !gpu"), api.ErrWorker}, {of(7, "*"), api.ErrThere}, {of(7, "*", "("), api.ErrForm}} {
		if got, e := s.Submit(l, tape, c.j); e != c.e || got != nil || len(tape.Left()) != 6 || l.Len() != 1 {
			t.Error(i, e)
		}
	}
	small, _ := ledger.Open(disk.New(9), 9)
	if _, e := s.Submit(small, tape, of(5, "*")); e != api.ErrFull || len(tape.Left()) != 6 {
		t.Error("full", e)
	}
	if _, ok := s.Round(5); ok {
		t.Error("a round of a job that was refused")
	}
	got, e := s.Submit(l, tape, of(5, "*", "gpu"))
	check(t, "probed", got, e, out(1, api.Probe, 5, 0, 1), out(3, api.Probe, 5, 0, 1), out(2, api.Probe, 5, 0, 1), out(0, api.Probe, 5, 0, 1))
	r, ok := s.Round(5)
	if !ok || !round.Same(r, round.Round{Left: 1, Asked: 15, Had: []bool{false, false}}) || len(tape.Left()) != 2 {
		t.Error(r, tape.Left())
	}
	entry, _ := l.Entry(5)
	if entry.Sched != 1 || entry.Epoch != 1 {
		t.Error(entry)
	}
	d.Fuse(3)
	if got, e := s.Submit(l, tape, of(6, "*")); e != api.ErrPower || got != nil || len(tape.Left()) != 2 {
		t.Error(e)
	}
	if _, e := s.Submit(l, tape, of(6, "*")); e != api.ErrDown {
		t.Error(e)
	}
	if _, ok := s.Round(6); ok {
		t.Error("a round without a record")
	}
}

func TestNoEffect(t *testing.T) {
	s := New(cluster(), 0)
	l, _ := ledgerOf(accept(5, 0, "*"))
	for _, worker := range []int{-1, 4, 64, math.MinInt, math.MaxInt} {
		got, e := s.Take(l, nil, worker, msgOf(api.Get, 5, 0))
		check(t, "sender", got, e)
	}
	for _, m := range []api.Msg{{}, msgOf(api.Get, 0, 0), msgOf(api.Get, 5, 1), msgOf(12, 5, 0), {Kind: api.Beat}, {Kind: api.Probe, Job: 5, Epoch: 1}, msgOf(api.NoTask, 5, 0),
		msgOf(api.Cancel, 5, 0), msgOf(api.Thanks, 5, 0), {Kind: api.Assign, Job: 5, Epoch: 1}, {Kind: api.Mine, Job: 5, Epoch: 1}, msgOf(api.Full, 5, 0), msgOf(api.Have, 6, 0)} {
		got, e := s.Take(l, nil, 0, m)
		check(t, "message", got, e)
	}
	if _, ok := s.Round(5); ok || l.Len() != 1 {
		t.Error("an effect")
	}
}

func TestGet(t *testing.T) {
	s := New(cluster(), 1)
	l, _ := ledgerOf(accept(7, 0, "*"))
	got, e := s.Take(l, nil, 2, msgOf(api.Get, 9, 0))
	check(t, "no entry", got, e, out(2, api.NoTask, 9, 0, 0))
	got, e = s.Take(l, nil, 2, msgOf(api.Get, 7, 0))
	check(t, "another one's", got, e, out(2, api.NoTask, 7, 0, 0))
	s.Submit(l, draw.New(), of(5, "gpu", "*"))
	got, e = s.Take(l, nil, 1, msgOf(api.Get, 5, 0))
	check(t, "what it may have", got, e, out(1, api.Assign, 5, 1, 1))
	got, e = s.Take(l, nil, 1, msgOf(api.Get, 5, 0))
	check(t, "pending", got, e, out(1, api.Assign, 5, 1, 1))
	s.Take(l, nil, 1, msgOf(api.Have, 5, 1))
	got, e = s.Take(l, nil, 1, msgOf(api.Get, 5, 0))
	check(t, "nothing for it", got, e, out(1, api.NoTask, 5, 0, 0))
	got, e = s.Take(l, nil, 2, msgOf(api.Get, 5, 0))
	check(t, "the last one", got, e, out(2, api.Assign, 5, 0, 1), out(0, api.Cancel, 5, 0, 0), out(1, api.Cancel, 5, 0, 0), out(3, api.Cancel, 5, 0, 0))
	if r, _ := s.Round(5); r.Asked != 0 {
		t.Error(r)
	}
	got, e = s.Take(l, nil, 0, msgOf(api.Get, 5, 0))
	check(t, "too late", got, e, out(0, api.NoTask, 5, 0, 0))
	if l.Len() != 4 {
		t.Error(l.Len())
	}
}

func TestGetWithoutRound(t *testing.T) {
	s := New(cluster(), 0)
	l, _ := ledgerOf(accept(5, 0, "*", "*"), api.Rec{Kind: api.Own, Job: 5, Sched: 1, Epoch: 2}, api.Rec{Kind: api.Own, Job: 5, Sched: 0, Epoch: 3})
	for task := range 2 {
		got, e := s.Take(l, nil, task, msgOf(api.Get, 5, 0))
		check(t, "epoch", got, e, out(task, api.Assign, 5, task, 3))
	}
	if _, ok := s.Round(5); ok {
		t.Error("a round was made")
	}
}

func TestFull(t *testing.T) {
	s := New(cluster(), 1)
	l, _ := ledgerOf()
	s.Submit(l, nil, of(5, "*", "*"))
	s.Take(l, nil, 2, msgOf(api.Full, 5, 0))
	s.Take(l, nil, 0, msgOf(api.Full, 6, 0))
	if r, _ := s.Round(5); r.Asked != 0b1011 {
		t.Error(r)
	}
}

func TestHaveAndDone(t *testing.T) {
	s := New(cluster(), 1)
	l, d := ledgerOf()
	s.Submit(l, nil, of(5, "*", "*"))
	l.Put(bind(5, 1, 2))
	had := func(want ...bool) {
		t.Helper()
		if r, _ := s.Round(5); !slices.Equal(r.Had, want) {
			t.Error(r)
		}
	}
	for _, m := range []api.Msg{msgOf(api.Have, 5, 0), msgOf(api.Done, 5, 0), msgOf(api.Have, 5, 2), msgOf(api.Done, 5, 15), msgOf(api.Have, 6, 0)} {
		got, e := s.Take(l, nil, 2, m)
		check(t, "not bound", got, e)
	}
	got, e := s.Take(l, nil, 1, msgOf(api.Done, 5, 1))
	check(t, "bound to another one", got, e)
	had(false, false)
	got, e = s.Take(l, nil, 2, msgOf(api.Have, 5, 1))
	check(t, "have", got, e)
	had(false, true)
	l.Put(bind(5, 0, 0))
	n := l.Len()
	for range 2 {
		got, e = s.Take(l, nil, 0, msgOf(api.Done, 5, 0))
		check(t, "done", got, e, out(0, api.Thanks, 5, 0, 0))
	}
	had(true, true)
	if entry, _ := l.Entry(5); !entry.Done[0] || entry.Done[1] || l.Len() != n+1 {
		t.Error(entry)
	}
	other := New(cluster(), 0)
	got, e = other.Take(l, nil, 0, msgOf(api.Done, 5, 0))
	check(t, "another one's job too", got, e, out(0, api.Thanks, 5, 0, 0))
	d.Fuse(1)
	if got, e := other.Take(l, nil, 2, msgOf(api.Done, 5, 1)); e != api.ErrPower || got != nil {
		t.Error(e)
	}
}

func TestRefusedPut(t *testing.T) {
	s := New(cluster(), 1)
	l, d := ledgerOf()
	s.Submit(l, nil, of(5, "*"))
	s.Submit(l, nil, of(6, "*"))
	l.Put(bind(6, 0, 2))
	before5, _ := s.Round(5)
	before6, _ := s.Round(6)
	d.Fuse(2)
	for _, want := range []api.Errno{api.ErrPower, api.ErrDown} {
		if got, e := s.Take(l, nil, 0, msgOf(api.Get, 5, 0)); e != want || got != nil {
			t.Error(e)
		}
	}
	if got, e := s.Take(l, nil, 2, msgOf(api.Done, 6, 0)); e != api.ErrDown || got != nil {
		t.Error(e)
	}
	after5, _ := s.Round(5)
	after6, _ := s.Round(6)
	if !round.Same(before5, after5) || !round.Same(before6, after6) {
		t.Error("an effect")
	}
}

func TestTick(t *testing.T) {
	s := New(cluster(), 1)
	l, _ := ledgerOf(accept(4, 0, "*"), accept(5, 1, "*", "gpu"), accept(6, 1, "gpu"), accept(7, 1, "*"), bind(5, 0, 3), bind(7, 0, 1), api.Rec{Kind: api.Finish, Job: 7})
	l.Put(bind(6, 0, 0))
	all := []api.Out{out(3, api.Assign, 5, 0, 1), out(0, api.Assign, 6, 0, 1), out(2, api.Probe, 5, 0, 1), out(0, api.Probe, 5, 0, 1)}
	for tick := 1; tick <= 7; tick++ {
		tape := draw.New(1, 0, 5)
		got := s.Tick(l, tape)
		if tick%3 == 1 {
			check(t, "due", got, api.OK, all...)
		} else {
			check(t, "not due", got, api.OK)
		}
	}
	if r, ok := s.Round(5); !ok || !round.Same(r, round.Round{Left: 3, Asked: 5, Had: []bool{false, false}}) {
		t.Error(r)
	}
	for _, id := range []int{4, 7, 8} {
		if _, ok := s.Round(id); ok {
			t.Error(id)
		}
	}
	s.Take(l, nil, 3, msgOf(api.Have, 5, 0))
	s.Tick(l, nil)
	s.Tick(l, nil)
	check(t, "arrived", s.Tick(l, draw.New(1)), api.OK, out(0, api.Assign, 6, 0, 1), out(2, api.Probe, 5, 0, 1), out(0, api.Probe, 5, 0, 1))
	l.Put(api.Rec{Kind: api.Own, Job: 5, Sched: 0, Epoch: 2})
	l.Put(api.Rec{Kind: api.Finish, Job: 6})
	check(t, "lost and done", s.Tick(l, nil), api.OK)
	if len(s.rounds) != 0 {
		t.Error(s.rounds)
	}
	s.Submit(l, nil, of(9, "*"))
	s.Tick(nil, nil)
	if len(s.rounds) != 0 {
		t.Error("no ledger, no jobs")
	}
}

func TestOwn(t *testing.T) {
	s := New(cluster(), 1)
	l, d := ledgerOf(accept(4, 0, "gpu", "gpu"), accept(5, 1, "*"), accept(6, 2, "*"))
	for id, want := range map[int]api.Errno{9: api.ErrNone, 5: api.ErrOwner, -1: api.ErrNone} {
		if got, e := s.Own(l, id); e != want || got != nil {
			t.Error(id, e)
		}
	}
	got, e := s.Own(l, 4)
	check(t, "own", got, e, out(0, api.Mine, 4, 0, 2), out(2, api.Mine, 4, 0, 2))
	if r, ok := s.Round(4); !ok || !round.Same(r, round.New(2)) {
		t.Error(r)
	}
	if entry, _ := l.Entry(4); entry.Sched != 1 || entry.Epoch != 2 {
		t.Error(entry)
	}
	owners := []*Sched{New(cluster(), 2), New(cluster(), 1)}
	for epoch := 3; epoch <= api.MaxEpoch; epoch++ {
		if _, e := owners[(epoch+1)%2].Own(l, 4); e != api.OK {
			t.Fatal(epoch, e)
		}
	}
	if _, e := owners[1].Own(l, 4); e != api.ErrArg {
		t.Error("the last epoch", e)
	}
	d.Fuse(0)
	if got, e := New(cluster(), 0).Own(l, 6); e != api.ErrPower || got != nil {
		t.Error(e)
	}
}

func TestMemory(t *testing.T) {
	s := New(cluster(), 1)
	l, _ := ledgerOf()
	s.Submit(l, nil, of(5, "*"))
	l.Put(bind(5, 0, 0))
	r, _ := s.Round(5)
	r.Had[0] = true
	c := s.Clone()
	c.Take(l, nil, 0, msgOf(api.Have, 5, 0))
	c.Own(l, 9)
	if r, _ := s.Round(5); r.Had[0] {
		t.Error("shares memory")
	}
	if r, _ := c.Round(5); !r.Had[0] {
		t.Error("clone")
	}
}

func TestNil(t *testing.T) {
	var s *Sched
	l, _ := ledgerOf()
	for i, f := range []func() ([]api.Out, api.Errno){
		func() ([]api.Out, api.Errno) { return s.Submit(l, nil, of(5, "*")) }, func() ([]api.Out, api.Errno) { return s.Take(l, nil, 0, api.Msg{}) },
		func() ([]api.Out, api.Errno) { return s.Own(l, 5) }, func() ([]api.Out, api.Errno) { return New(cluster(), 0).Submit(nil, nil, of(5, "*")) },
		func() ([]api.Out, api.Errno) { return New(cluster(), 0).Take(nil, nil, 0, api.Msg{}) }, func() ([]api.Out, api.Errno) { return New(cluster(), 0).Own(nil, 5) },
	} {
		if got, e := f(); got != nil || e != api.ErrArg {
			t.Error(i, e)
		}
	}
	if _, ok := s.Round(5); ok || s.Tick(l, nil) != nil || s.Clone() != nil {
		t.Error("nil")
	}
}

func TestBoundFirst(t *testing.T) {
	r := rand.New(rand.NewSource(12))
	for range 100 {
		c := cluster()
		s := New(c, 0)
		l, _ := ledgerOf()
		for range 120 {
			id, worker := 1+r.Intn(3), r.Intn(4)
			var outs []api.Out
			switch r.Intn(6) {
			case 0:
				before, rounds, tape := l.Book(), len(s.rounds), draw.New(1, 2, 3)
				var e api.Errno
				outs, e = s.Submit(l, tape, of(id, "gpu", "*", "!gpu"))
				if e != api.OK && (!book.Same(before, l.Book()) || rounds != len(s.rounds) || len(tape.Left()) != 3) {
					t.Fatal("a refusal has an effect")
				}
			case 1:
				outs = s.Tick(l, draw.New(r.Uint64(), r.Uint64()))
			case 2:
				outs, _ = s.Take(l, nil, worker, msgOf(api.Have+r.Intn(2), id, r.Intn(3)))
			default:
				outs, _ = s.Take(l, nil, worker, msgOf(api.Get, id, 0))
			}
			for _, o := range outs {
				if o.Msg.Kind != api.Assign {
					continue
				}
				e, _ := l.Entry(o.Msg.Job)
				if e.Bound[o.Msg.Task] != o.To-8+1 || !flock.Has(job.Set(c, e.Needs[o.Msg.Task]), o.To-8) {
					t.Fatal(o, e)
				}
			}
		}
	}
}
