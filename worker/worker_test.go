package worker

import (
	"math"
	"math/rand"
	"slices"
	"testing"

	"siskin/api"
	"siskin/queue"
	"siskin/slots"
	"siskin/table"
)

func probe(job, epoch int) api.Msg { return api.Msg{Kind: api.Probe, Job: job, Epoch: epoch} }

func mine(job, epoch int) api.Msg { return api.Msg{Kind: api.Mine, Job: job, Epoch: epoch} }

func assign(job, task, epoch int) api.Msg {
	return api.Msg{Kind: api.Assign, Job: job, Task: task, Epoch: epoch}
}

func of(kind, job int) api.Msg { return api.Msg{Kind: kind, Job: job} }

func about(kind, job, task int) api.Msg { return api.Msg{Kind: kind, Job: job, Task: task} }

// outs makes messages from pairs of a scheduler and a message.
func outs(l ...any) []api.Out {
	var o []api.Out
	for i := 0; i < len(l); i += 2 {
		o = append(o, api.Out{To: l[i].(int), Msg: l[i+1].(api.Msg)})
	}
	return o
}

func check(t *testing.T, what string, s Step, want []api.Out, launched ...api.Task) {
	t.Helper()
	if !slices.Equal(s.Outs, want) || !slices.Equal(s.Launched, launched) {
		t.Errorf("%s: %v", what, s)
	}
}

func TestNew(t *testing.T) {
	for i, c := range []struct {
		slots, limit, again int
		ok                  bool
	}{
		{1, 1, 1, true}, {255, 64, 1000, true}, {0, 1, 1, false}, {256, 1, 1, false}, {1, 0, 1, false}, {1, 65, 1, false}, {1, 1, 0, false}, {1, 1, 1001, false}, {math.MinInt, 1, 1, false},
	} {
		if w := New(c.slots, c.limit, c.again); (w != nil) != c.ok {
			t.Error(i)
		}
	}
}

func TestExample(t *testing.T) {
	w := New(1, 1, 3)
	check(t, "probe", w.Take(0, probe(5, 1)), outs(0, of(api.Get, 5)))
	check(t, "assign", w.Take(0, assign(5, 2, 1)), outs(0, about(api.Have, 5, 2)), api.Task{Job: 5, Task: 2})
	s, ok := w.Finish(api.Task{Job: 5, Task: 2})
	check(t, "finish", s, outs(0, about(api.Done, 5, 2)))
	if !ok {
		t.Error("finish")
	}
	check(t, "thanks", w.Take(0, about(api.Thanks, 5, 2)), nil)
	if !table.Same(w.Table(), []table.Row{{Task: api.Task{Job: 5, Task: 2}, State: table.Thanked}}) {
		t.Error(w.Table())
	}
}

func TestNoEffect(t *testing.T) {
	w := New(1, 1, 1)
	for _, from := range []int{-1, 8, math.MinInt, math.MaxInt} {
		check(t, "sender", w.Take(from, probe(5, 1)), nil)
	}
	for _, m := range []api.Msg{{}, {Kind: 12, Job: 1}, probe(0, 1), probe(5, 0), probe(5, 10), of(api.Get, 5), of(api.Full, 5), about(api.Have, 5, 1), about(api.Done, 5, 1), {Kind: api.Beat}} {
		check(t, "message", w.Take(0, m), nil)
	}
	if s, e := w.Owner(5); s != -1 || e != 0 || len(w.Queue()) != 0 || !slots.Same(w.Slots(), slots.Slots{N: 1}) || len(w.Table()) != 0 {
		t.Error("an effect")
	}
}

func TestProbe(t *testing.T) {
	w := New(1, 2, 5)
	check(t, "first", w.Take(0, probe(5, 2)), outs(0, of(api.Get, 5)))
	check(t, "requested", w.Take(1, probe(5, 2)), nil)
	if s, e := w.Owner(5); s != 1 || e != 2 || w.Slots().Asked[0] != (queue.Place{Job: 5, Sched: 1}) {
		t.Error("adopted", s, e)
	}
	check(t, "earlier epoch", w.Take(0, probe(5, 1)), nil)
	if s, e := w.Owner(5); s != 1 || e != 2 || w.Slots().Asked[0].Sched != 1 {
		t.Error("kept", s, e)
	}
	check(t, "queued", w.Take(0, probe(6, 1)), nil)
	check(t, "queued again", w.Take(3, probe(6, 4)), nil)
	if !queue.Same(w.Queue(), []queue.Place{{Job: 6, Sched: 3}}) {
		t.Error(w.Queue())
	}
	check(t, "queued too", w.Take(0, probe(7, 1)), nil)
	check(t, "full", w.Take(2, probe(8, 1)), outs(2, of(api.Full, 8)))
	check(t, "full, but there", w.Take(2, probe(7, 1)), nil)
	if s, e := w.Owner(8); s != 2 || e != 1 {
		t.Error("the owner is known all the same", s, e)
	}
	check(t, "none", w.Take(1, of(api.NoTask, 5)), outs(3, of(api.Get, 6)))
	check(t, "none for another one", w.Take(1, of(api.NoTask, 5)), nil)
	check(t, "cancel", w.Take(1, of(api.Cancel, 7)), nil)
	if len(w.Queue()) != 0 {
		t.Error(w.Queue())
	}
	check(t, "a cancel is not for requests", w.Take(1, of(api.Cancel, 6)), nil)
	if !queue.Same(w.Slots().Asked, []queue.Place{{Job: 6, Sched: 3}}) {
		t.Error(w.Slots())
	}
}

func TestAssign(t *testing.T) {
	w := New(1, 5, 5)
	w.Take(0, probe(5, 1))
	w.Take(0, probe(6, 1))
	check(t, "runs", w.Take(1, assign(5, 0, 2)), outs(1, about(api.Have, 5, 0)), api.Task{Job: 5})
	if s, e := w.Owner(5); s != 1 || e != 2 {
		t.Error("adopted")
	}
	check(t, "again", w.Take(0, assign(5, 0, 1)), outs(0, about(api.Have, 5, 0)))
	if s, e := w.Owner(5); s != 1 || e != 2 {
		t.Error("an earlier epoch is not adopted")
	}
	check(t, "owed", w.Take(0, assign(5, 1, 1)), outs(0, about(api.Have, 5, 1)))
	check(t, "owed again", w.Take(3, assign(5, 1, 2)), outs(3, about(api.Have, 5, 1)))
	if s, e := w.Owner(5); s != 3 || e != 2 {
		t.Error("an equal epoch is adopted")
	}
	if !slices.Equal(w.Slots().Owed, []api.Task{{Job: 5, Task: 1}}) || table.State(w.Table(), api.Task{Job: 5, Task: 1}) != table.Owed {
		t.Error(w.Slots())
	}
	s, _ := w.Finish(api.Task{Job: 5})
	check(t, "finish", s, outs(3, about(api.Done, 5, 0)), api.Task{Job: 5, Task: 1})
	check(t, "ended", w.Take(2, assign(5, 0, 1)), outs(2, about(api.Done, 5, 0)))
	w.Take(0, about(api.Thanks, 5, 0))
	check(t, "thanked", w.Take(2, assign(5, 0, 1)), outs(2, about(api.Done, 5, 0)))
	s, _ = w.Finish(api.Task{Job: 5, Task: 1})
	check(t, "the queue's turn", s, outs(3, about(api.Done, 5, 1), 0, of(api.Get, 6)))
}

func TestAssignTakesItsRequest(t *testing.T) {
	w := New(2, 5, 5)
	w.Take(0, probe(5, 1))
	w.Take(0, probe(6, 1))
	w.Take(0, probe(7, 1))
	check(t, "no slot is free", w.Take(0, assign(9, 0, 1)), outs(0, about(api.Have, 9, 0)))
	check(t, "its own", w.Take(0, assign(6, 1, 1)), outs(0, about(api.Have, 6, 1)), api.Task{Job: 6, Task: 1})
	if !queue.Same(w.Slots().Asked, []queue.Place{{Job: 5}}) {
		t.Error(w.Slots())
	}
	check(t, "what is owed goes before what is queued", w.Take(0, of(api.NoTask, 5)), nil, api.Task{Job: 9})
}

func TestMine(t *testing.T) {
	w := New(2, 5, 5)
	w.Take(0, assign(5, 4, 1))
	w.Take(0, assign(5, 3, 1))
	w.Take(0, assign(5, 1, 1))
	w.Take(0, assign(5, 0, 1))
	w.Finish(api.Task{Job: 5, Task: 4})
	w.Finish(api.Task{Job: 5, Task: 3})
	w.Take(0, about(api.Thanks, 5, 4))
	w.Finish(api.Task{Job: 5, Task: 1})
	w.Take(0, probe(5, 1))
	w.Take(0, probe(6, 1))
	check(t, "all", w.Take(2, mine(5, 3)), outs(2, of(api.Get, 5), 2, about(api.Have, 5, 0), 2, about(api.Done, 5, 1), 2, about(api.Done, 5, 3)))
	if s, e := w.Owner(5); s != 2 || e != 3 || w.Slots().Asked[0].Sched != 2 {
		t.Error("adopted")
	}
	check(t, "earlier", w.Take(1, mine(5, 2)), nil)
	check(t, "only queued", w.Take(4, mine(6, 2)), nil)
	if !queue.Same(w.Queue(), []queue.Place{{Job: 6, Sched: 4}}) {
		t.Error(w.Queue())
	}
	check(t, "unknown", w.Take(4, mine(99, 2)), nil)
	if s, e := w.Owner(99); s != 4 || e != 2 {
		t.Error(s, e)
	}
}

func TestThanksAndFinish(t *testing.T) {
	w := New(1, 1, 1)
	w.Take(0, assign(5, 0, 1))
	w.Take(0, assign(5, 1, 1))
	check(t, "running", w.Take(0, about(api.Thanks, 5, 0)), nil)
	for _, x := range []api.Task{{Job: 5, Task: 1}, {Job: 6}, {}} {
		if s, ok := w.Finish(x); ok || len(s.Outs)+len(s.Launched) != 0 {
			t.Error(x)
		}
	}
	if _, ok := w.Finish(api.Task{Job: 5}); !ok {
		t.Error("thanks came too early")
	}
	if _, ok := w.Finish(api.Task{Job: 5}); ok {
		t.Error("twice")
	}
}

func TestTick(t *testing.T) {
	w := New(2, 5, 3)
	w.Take(0, probe(5, 1))
	w.Take(1, probe(6, 1))
	w.Take(2, probe(7, 1))
	repeated := outs(0, of(api.Get, 5), 1, of(api.Get, 6))
	for tick := 1; tick <= 14; tick++ {
		want := repeated
		if tick%3 != 0 {
			want = nil
		}
		check(t, "tick", w.Tick(), want)
	}
	check(t, "given up", w.Tick(), outs(2, of(api.Get, 7)))
	if !queue.Same(w.Slots().Asked, []queue.Place{{Job: 7, Sched: 2}}) {
		t.Error(w.Slots())
	}
	w.Take(2, assign(7, 1, 1))
	w.Take(0, assign(5, 0, 1))
	w.Finish(api.Task{Job: 7, Task: 1})
	w.Take(1, probe(6, 2))
	w.Tick()
	w.Tick()
	check(t, "done again", w.Tick(), outs(1, of(api.Get, 6), 2, about(api.Done, 7, 1)))
	w.Take(2, about(api.Thanks, 7, 1))
	w.Take(3, assign(6, 0, 2))
	w.Tick()
	w.Tick()
	check(t, "nothing to repeat", w.Tick(), nil)
}

func TestAllThatIsOwedRuns(t *testing.T) {
	w := New(3, 5, 1)
	for id := 1; id < 4; id++ {
		w.Take(0, probe(id, 1))
	}
	w.Take(0, assign(7, 0, 1))
	w.Take(0, assign(7, 1, 1))
	w.Take(1, probe(8, 1))
	for range 4 {
		w.Tick()
	}
	check(t, "three requests are given up", w.Tick(), outs(1, of(api.Get, 8)), api.Task{Job: 7}, api.Task{Job: 7, Task: 1})
}

func TestRepeatsBeginAnew(t *testing.T) {
	w := New(1, 5, 1)
	for range 3 {
		w.Take(0, probe(5, 1))
		for range 4 {
			check(t, "repeated", w.Tick(), outs(0, of(api.Get, 5)))
		}
		w.Take(0, of(api.NoTask, 5))
	}
	w.Take(0, probe(5, 1))
	w.Tick()
	w.Take(0, assign(5, 0, 1))
	w.Finish(api.Task{Job: 5})
	w.Take(0, about(api.Thanks, 5, 0))
	w.Take(0, probe(5, 1))
	for range 4 {
		check(t, "after a task", w.Tick(), outs(0, of(api.Get, 5)))
	}
	check(t, "given up", w.Tick(), nil)
	check(t, "probed again", w.Take(0, probe(5, 1)), outs(0, of(api.Get, 5)))
}

func TestMemory(t *testing.T) {
	w := New(1, 5, 1)
	w.Take(0, assign(5, 0, 1))
	w.Take(0, assign(5, 1, 1))
	w.Take(0, probe(6, 1))
	c := w.Clone()
	w.Queue()[0].Job = 9
	w.Slots().Running[0].Job = 9
	w.Slots().Owed[0].Job = 9
	w.Table()[0].State = 4
	same := func() bool {
		a, b := w.Clone(), c.Clone()
		return queue.Same(a.Queue(), b.Queue()) && slots.Same(a.Slots(), b.Slots()) && table.Same(a.Table(), b.Table())
	}
	if w.Queue()[0].Job != 6 || w.Slots().Running[0].Job != 5 || w.Slots().Owed[0].Job != 5 || w.Table()[0].State != table.Running || !same() {
		t.Error("shares memory")
	}
	asked := New(1, 1, 1)
	asked.Take(0, probe(5, 1))
	asked.Slots().Asked[0].Job = 9
	if asked.Slots().Asked[0].Job != 5 {
		t.Error("shares the requests")
	}
	c.Finish(api.Task{Job: 5})
	c.Take(3, probe(6, 7))
	if same() {
		t.Error("no effect")
	}
	if s, e := w.Owner(6); s != 0 || e != 1 || w.Queue()[0].Sched != 0 {
		t.Error("the clone is not independent")
	}
	c = w.Clone()
	c.Finish(api.Task{Job: 5})
	w.Finish(api.Task{Job: 5})
	if !same() {
		t.Error("an equal worker")
	}
}

func TestNil(t *testing.T) {
	var w *Worker
	check(t, "take", w.Take(0, probe(5, 1)), nil)
	check(t, "tick", w.Tick(), nil)
	s, ok := w.Finish(api.Task{})
	check(t, "finish", s, nil)
	if sched, epoch := w.Owner(5); ok || sched != -1 || epoch != 0 || len(w.Queue()) != 0 || !slots.Same(w.Slots(), slots.Slots{}) || len(w.Table()) != 0 || w.Clone() != nil {
		t.Error("nil")
	}
}

func TestOnceAndNoIdleSlot(t *testing.T) {
	r := rand.New(rand.NewSource(11))
	for n := 1; n < 4; n++ {
		for range 60 {
			w := New(n, 2, 2)
			launched, given := map[api.Task]int{}, map[api.Task]int{}
			for range 300 {
				m := api.Msg{Kind: 1 + r.Intn(11), Job: 1 + r.Intn(4)}
				switch m.Kind {
				case api.Probe, api.Mine:
					m.Epoch = 1 + r.Intn(3)
				case api.Assign:
					m.Task, m.Epoch = r.Intn(3), 1+r.Intn(3)
					given[api.Task{Job: m.Job, Task: m.Task}]++
				case api.Thanks:
					m.Task = r.Intn(3)
				}
				var s Step
				switch r.Intn(5) {
				case 0:
					s = w.Tick()
				case 1:
					s, _ = w.Finish(api.Task{Job: m.Job, Task: r.Intn(3)})
				default:
					s = w.Take(r.Intn(3), m)
				}
				for _, x := range s.Launched {
					launched[x]++
					if launched[x] > 1 || given[x] == 0 {
						t.Fatal("launched", x)
					}
				}
				q, state := w.Queue(), w.Slots()
				if len(state.Running) > n || len(q) > 2 || slots.Free(state) > 0 && (len(q) > 0 || len(state.Owed) > 0) || !table.Check(w.Table()) {
					t.Fatal(q, state)
				}
			}
		}
	}
}
