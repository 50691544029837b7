package event

import (
	"math"
	"math/rand"
	"testing"

	"siskin/api"
	"siskin/book"
	"siskin/flock"
	"siskin/job"
)

var (
	cluster = api.Conf{Names: []string{"gpu"}, Workers: []api.Worker{{Slots: 1}, {Slots: 2, Attrs: 1}}}
	jobs    = []api.Job{{ID: 5, Needs: []string{"*", "gpu", "*"}}, {ID: 6, Needs: []string{"*"}}, {ID: 6, Needs: []string{"gpu", "gpu"}}, {ID: 7, Needs: []string{"tpu"}}, {ID: 0, Needs: []string{"*"}}}
)

func accept(id int) api.Event { return api.Event{Kind: api.Accepted, Job: id} }

func launch(id, task, worker int) api.Event {
	return api.Event{Kind: api.Launched, Job: id, Task: task, Worker: worker}
}

func finish(id, task, worker int) api.Event {
	return api.Event{Kind: api.Finished, Job: id, Task: task, Worker: worker}
}

func start() []api.Entry {
	s, _ := Run(cluster, jobs, accept(5), launch(5, 0, 0), launch(5, 1, 1), finish(5, 1, 1))
	return s
}

func TestRun(t *testing.T) {
	want := []api.Entry{{ID: 5, Epoch: 1, Needs: jobs[0].Needs, Bound: []int{1, 2, 0}, Done: []bool{false, true, false}}}
	if !book.Same(start(), want) {
		t.Error(start())
	}
	s, n := Run(cluster, jobs, accept(6), launch(6, 0, 0), launch(6, 0, 0), accept(5))
	if n != 2 || len(s) != 1 || s[0].Bound[0] != 1 {
		t.Error(s, n)
	}
	if s, n := Run(cluster, jobs); len(s) != 0 || n != 0 {
		t.Error(s, n)
	}
}

func TestStep(t *testing.T) {
	for i, c := range []struct {
		e  api.Event
		ok bool
	}{
		{accept(6), true}, {accept(5), false}, {accept(7), false}, {accept(8), false}, {accept(0), false}, {api.Event{Kind: api.Accepted, Job: 6, Task: 1}, false},
		{api.Event{Kind: api.Accepted, Job: 6, Worker: 1}, false}, {launch(5, 2, 0), false}, {launch(5, 2, 1), true}, {launch(5, 0, 1), false}, {launch(5, 1, 1), false}, {launch(5, 3, 1), false},
		{launch(5, -1, 1), false}, {launch(6, 0, 1), false}, {launch(5, 2, 2), false}, {launch(5, 2, -1), false}, {launch(5, 2, math.MaxInt), false}, {launch(5, math.MaxInt, 1), false},
		{finish(5, 0, 0), true}, {finish(5, 0, 1), false}, {finish(5, 1, 1), false}, {finish(5, 2, 0), false}, {finish(5, 2, -1), false}, {finish(5, 3, 0), false}, {finish(5, -1, 0), false}, {finish(6, 0, 0), false},
		{api.Event{Job: 5}, false}, {api.Event{Kind: 4, Job: 6}, false}, {api.Event{Kind: -1}, false}, {finish(5, 0, math.MinInt), false},
	} {
		s := start()
		got, ok := Step(cluster, jobs, s, c.e)
		if ok != c.ok || !book.Same(s, start()) || !ok && !book.Same(got, s) || ok && book.Same(got, s) {
			t.Error(i, got, ok)
		}
		for _, x := range got {
			clear(x.Bound)
			clear(x.Done)
			clear(x.Needs)
		}
		if !book.Same(s, start()) || jobs[1].Needs[0] != "*" {
			t.Fatal(i, "shares memory")
		}
	}
}

func TestFirstCounts(t *testing.T) {
	s, ok := Step(cluster, jobs, nil, accept(6))
	if !ok || len(s[0].Needs) != 1 {
		t.Error(s)
	}
	odd := []api.Entry{{ID: 1, Needs: []string{"*"}, Bound: []int{0}}, {ID: 1, Needs: []string{"*"}, Bound: []int{0}, Done: []bool{false}}}
	if _, ok := Step(cluster, jobs, odd, launch(1, 0, 0)); ok {
		t.Error("the first entry has no such task")
	}
}

func TestSlots(t *testing.T) {
	s, n := Run(cluster, jobs, accept(5), launch(5, 0, 0))
	if _, ok := Step(cluster, jobs, s, launch(5, 2, 0)); ok || n != 2 {
		t.Error("one slot")
	}
	s, _ = Step(cluster, jobs, s, finish(5, 0, 0))
	if _, ok := Step(cluster, jobs, s, launch(5, 2, 0)); !ok {
		t.Error("after finish")
	}
	if Running(start(), 0) != 1 || Running(start(), 1) != 0 || Running(start(), -1) != 0 || Running(start(), math.MaxInt) != 0 || Running(nil, 0) != 0 {
		t.Error("running")
	}
	two := append(start(), start()...)
	if Running(two, 0) != 2 {
		t.Error("over all entries")
	}
}

func TestText(t *testing.T) {
	for want, e := range map[string]api.Event{"accept 5 0 0": accept(5), "launch 5 1 2": launch(5, 1, 2), "finish -5 0 63": finish(-5, 0, 63), "event 1 2 3": {Kind: 9, Job: 1, Task: 2, Worker: 3}, "event 0 0 0": {}} {
		if Text(e) != want {
			t.Error(Text(e))
		}
	}
}

func TestOnce(t *testing.T) {
	r := rand.New(rand.NewSource(13))
	for range 200 {
		var s []api.Entry
		launched, finished := map[api.Task]int{}, map[api.Task]int{}
		for range 150 {
			e := api.Event{Kind: 1 + r.Intn(3), Job: 5 + r.Intn(2), Task: r.Intn(3), Worker: r.Intn(2)}
			next, ok := Step(cluster, jobs, s, e)
			if !ok {
				continue
			}
			x := api.Task{Job: e.Job, Task: e.Task}
			switch e.Kind {
			case api.Launched:
				launched[x]++
				if launched[x] > 1 || !flock.Has(job.Set(cluster, next[place(next, e.Job)].Needs[e.Task]), e.Worker) {
					t.Fatal(e)
				}
			case api.Finished:
				finished[x]++
				if finished[x] > launched[x] {
					t.Fatal(e)
				}
			}
			for w, worker := range cluster.Workers {
				if Running(next, w) > worker.Slots {
					t.Fatal(next)
				}
			}
			s = next
		}
	}
}
