package book

import (
	"math"
	"math/rand"
	"slices"
	"testing"

	"siskin/api"
)

func accept(job, sched int, needs ...string) api.Rec {
	return api.Rec{Kind: api.Accept, Job: job, Sched: sched, Needs: needs}
}

func bind(job, task, worker, epoch int) api.Rec {
	return api.Rec{Kind: api.Bind, Job: job, Task: task, Worker: worker, Epoch: epoch}
}

func finish(job, task int) api.Rec { return api.Rec{Kind: api.Finish, Job: job, Task: task} }

func own(job, sched, epoch int) api.Rec {
	return api.Rec{Kind: api.Own, Job: job, Sched: sched, Epoch: epoch}
}

func start() []api.Entry {
	b, _ := Fold(accept(5, 1, "gpu", "*"), accept(7, 0, "*"), bind(5, 1, 3, 1), own(7, 2, 2), bind(7, 0, 0, 2), finish(7, 0))
	return b
}

func TestFold(t *testing.T) {
	want := []api.Entry{
		{ID: 5, Sched: 1, Epoch: 1, Needs: []string{"gpu", "*"}, Bound: []int{0, 4}, Done: []bool{false, false}},
		{ID: 7, Sched: 2, Epoch: 2, Needs: []string{"*"}, Bound: []int{1}, Done: []bool{true}},
	}
	if !Same(start(), want) {
		t.Error(start())
	}
	b, n := Fold(accept(5, 1, "*"), finish(5, 0), accept(6, 0, "*"))
	if n != 1 || len(b) != 1 || b[0].ID != 5 {
		t.Error(b, n)
	}
	if b, n := Fold(); len(b) != 0 || n != 0 {
		t.Error(b, n)
	}
}

func TestStep(t *testing.T) {
	for i, c := range []struct {
		x api.Rec
		e api.Errno
	}{
		{api.Rec{}, api.ErrArg}, {accept(5, 9, "*"), api.ErrArg}, {accept(5, 1, "*"), api.ErrThere}, {accept(6, 1, "*"), api.OK},
		{bind(6, 0, 0, 1), api.ErrNone}, {bind(5, 2, 0, 9), api.ErrNone}, {bind(5, 0, 0, 2), api.ErrFence}, {bind(5, 1, 3, 2), api.ErrFence},
		{bind(5, 1, 3, 1), api.ErrBound}, {bind(5, 0, 0, 1), api.OK}, {bind(7, 0, 0, 1), api.ErrFence}, {bind(7, 0, 0, 2), api.ErrBound},
		{finish(6, 0), api.ErrNone}, {finish(5, 2), api.ErrNone}, {finish(5, 0), api.ErrArg}, {finish(5, 1), api.OK}, {finish(7, 0), api.ErrThere},
		{own(6, 0, 2), api.ErrNone}, {own(5, 0, 1), api.ErrFence}, {own(5, 0, 3), api.ErrFence}, {own(5, 1, 2), api.OK}, {own(7, 0, 3), api.OK},
	} {
		b := start()
		got, e := Step(b, c.x)
		if e != c.e || !Same(b, start()) {
			t.Error(i, e)
		}
		want, n := Fold(append([]api.Rec{accept(5, 1, "gpu", "*"), accept(7, 0, "*"), bind(5, 1, 3, 1), own(7, 2, 2), bind(7, 0, 0, 2), finish(7, 0)}, c.x)...)
		if c.e != api.OK && (got != nil || n != 6) || c.e == api.OK && (!Same(got, want) || n != 7) {
			t.Error(i, got, n)
		}
	}
}

func TestRecordIsCopied(t *testing.T) {
	x := accept(5, 1, "gpu", "*")
	stepped, _ := Step(nil, x)
	folded, _ := Fold(x)
	x.Needs[0] = "x"
	if stepped[0].Needs[0] != "gpu" || folded[0].Needs[0] != "gpu" {
		t.Error("shares memory")
	}
}

func TestExample(t *testing.T) {
	b, n := Fold(accept(1, 0, "*", "*"), bind(1, 0, 2, 1), own(1, 1, 2))
	if n != 3 {
		t.Error(n)
	}
	if _, e := Step(b, bind(1, 1, 0, 1)); e != api.ErrFence {
		t.Error(e)
	}
	b, e := Step(b, bind(1, 1, 0, 2))
	if e != api.OK || !slices.Equal(b[0].Bound, []int{3, 1}) || b[0].Sched != 1 || b[0].Epoch != 2 {
		t.Error(b, e)
	}
}

func TestOddBooks(t *testing.T) {
	b := []api.Entry{{ID: 1, Epoch: 3, Needs: []string{"*", "*"}, Bound: []int{0}, Done: []bool{false, false}}, {ID: 1, Epoch: 4, Needs: []string{"*"}, Bound: []int{0}, Done: []bool{false}}}
	if _, e := Step(b, bind(1, 1, 0, 3)); e != api.ErrNone {
		t.Error("a task that lacks an index", e)
	}
	got, e := Step(b, bind(1, 0, 6, 3))
	if e != api.OK || got[0].Bound[0] != 7 || got[1].Bound[0] != 0 || b[0].Bound[0] != 0 {
		t.Error("the first entry counts", got, e)
	}
	if _, e := Step([]api.Entry{{ID: 1, Epoch: math.MaxInt}}, own(1, 0, 1)); e != api.ErrFence {
		t.Error(e)
	}
	var full []api.Entry
	for i := range api.MaxJobs {
		full = append(full, api.Entry{ID: i + 1})
	}
	if _, e := Step(full, accept(41, 0, "*")); e != api.ErrFull {
		t.Error(e)
	}
	if _, e := Step(full, accept(40, 0, "*")); e != api.ErrThere {
		t.Error(e)
	}
	if _, e := Step(full[1:], accept(41, 0, "*")); e != api.OK {
		t.Error(e)
	}
}

func TestFind(t *testing.T) {
	b := []api.Entry{{ID: 2, Needs: []string{"a"}}, {ID: 1, Sched: 1, Bound: []int{1}}, {ID: 1, Sched: 2}}
	e, ok := Find(b, 1)
	if !ok || e.Sched != 1 {
		t.Error(e, ok)
	}
	e.Bound[0] = 9
	if b[1].Bound[0] != 1 {
		t.Error("shares memory")
	}
	if e, ok := Find(b, 2); !ok || e.Needs[0] != "a" {
		t.Error(e, ok)
	}
	if e, ok := Find(b, 3); ok || !same(e, api.Entry{}) {
		t.Error(e)
	}
}

func TestOpenAndLeft(t *testing.T) {
	e := api.Entry{Needs: make([]string, 3), Bound: []int{0, 2, 0, 0}, Done: []bool{true, false}}
	if !slices.Equal(Open(e), []int{0, 2}) || Left(e) != 1 {
		t.Error(Open(e), Left(e))
	}
	e = api.Entry{Needs: make([]string, 4), Bound: []int{0}, Done: []bool{false, true, false, false, false}}
	if !slices.Equal(Open(e), []int{0}) || Left(e) != 3 || len(Open(api.Entry{})) != 0 || Left(api.Entry{}) != 0 {
		t.Error(Open(e), Left(e))
	}
}

func TestSameAndClone(t *testing.T) {
	if !Same(nil, []api.Entry{}) || !Same([]api.Entry{{}}, []api.Entry{{Needs: []string{}, Bound: []int{}, Done: []bool{}}}) || Same(start(), start()[:1]) {
		t.Error("same")
	}
	for i, change := range []func(e *api.Entry){func(e *api.Entry) { e.ID++ }, func(e *api.Entry) { e.Sched++ }, func(e *api.Entry) { e.Epoch++ },
		func(e *api.Entry) { e.Needs[1] = "x" }, func(e *api.Entry) { e.Bound[0]++ }, func(e *api.Entry) { e.Done[1] = true }} {
		b := start()
		c := Clone(b)
		if !Same(b, c) {
			t.Error(i)
		}
		change(&c[0])
		if Same(b, c) || !Same(b, start()) {
			t.Error(i)
		}
	}
}

func TestOnce(t *testing.T) {
	r := rand.New(rand.NewSource(4))
	for range 300 {
		var b []api.Entry
		for range 60 {
			job := 1 + r.Intn(2)
			x := []api.Rec{accept(job, r.Intn(3), "*", "*"), bind(job, r.Intn(3), r.Intn(3), 1+r.Intn(4)), finish(job, r.Intn(2)), own(job, r.Intn(3), 1+r.Intn(4))}[r.Intn(4)]
			next, e := Step(b, x)
			if e != api.OK {
				continue
			}
			for i, old := range b {
				now := next[i]
				if now.ID != old.ID || now.Epoch != old.Epoch && (now.Epoch != old.Epoch+1 || x.Kind != api.Own) || now.Sched != old.Sched && now.Epoch == old.Epoch {
					t.Fatal(old, now)
				}
				for k := range old.Bound {
					if old.Bound[k] != 0 && now.Bound[k] != old.Bound[k] || old.Done[k] && !now.Done[k] || now.Done[k] && now.Bound[k] == 0 {
						t.Fatal(old, now)
					}
					if old.Bound[k] != now.Bound[k] && (x.Kind != api.Bind || x.Epoch != old.Epoch) {
						t.Fatal(x)
					}
				}
			}
			b = next
		}
	}
}
