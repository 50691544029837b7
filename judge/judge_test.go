package judge

import (
	"math/rand"
	"slices"
	"testing"

	"siskin/api"
	"siskin/book"
	"siskin/cluster"
	"siskin/conf"
)

func wide() api.Conf {
	return api.Conf{Scheds: 3, Lease: 4, Again: 3, Room: 3000, Out: 3, Names: []string{"gpu"},
		Workers: []api.Worker{{Slots: 1, Limit: 1, Attrs: 1}, {Slots: 2, Limit: 2}}}
}

// good is a view without a fault: task 0 of job 5 runs on worker 0, and tasks 1 and 2 on worker 1.
func good() View {
	return View{
		Conf: wide(), Jobs: []api.Job{{ID: 5, Needs: []string{"*", "*", "*", "*"}}},
		Events: []api.Event{{Kind: api.Accepted, Job: 5}, {Kind: api.Launched, Job: 5}, {Kind: api.Launched, Job: 5, Task: 1, Worker: 1}, {Kind: api.Launched, Job: 5, Task: 2, Worker: 1}},
		Book:   []api.Entry{{ID: 5, Sched: 1, Epoch: 2, Needs: []string{"*", "*", "*", "*"}, Bound: []int{1, 2, 2, 1}, Done: make([]bool, 4)}},
		Queues: []int{1, 2}, Held: []int{1, 2}, Runs: [][]api.Task{{{Job: 5}}, {{Job: 5, Task: 2}, {Job: 5, Task: 1}}}, Waits: 3, Net: api.MaxNet,
	}
}

func TestVerdict(t *testing.T) {
	for i, c := range []struct {
		change func(v *View)
		want   int
	}{
		{func(v *View) {}, 0},
		{func(v *View) { v.Events = v.Events[1:] }, 1}, {func(v *View) { v.Jobs = nil }, 1}, {func(v *View) { v.Events = append(v.Events, v.Events[1]) }, 1}, {func(v *View) { v.Events[1].Kind = 9 }, 1},
		{func(v *View) { v.Jobs, v.Book, v.Net = nil, nil, 9999 }, 1},
		{func(v *View) { v.Book = nil }, 2}, {func(v *View) { v.Book[0].Bound[0] = 2 }, 2}, {func(v *View) { v.Book[0].Done[0] = true }, 2}, {func(v *View) { v.Book[0].Bound[2] = 0; v.Queues[0] = 9 }, 2},
		{func(v *View) { v.Queues[0] = 2 }, 3}, {func(v *View) { v.Queues[1] = 3; v.Held[0] = 9 }, 3}, {func(v *View) { v.Queues = []int{0} }, 0}, {func(v *View) { v.Queues = []int{0, 0, 9} }, 0},
		{func(v *View) { v.Held[0] = 2 }, 4}, {func(v *View) { v.Held[1] = 3; v.Runs = nil }, 4}, {func(v *View) { v.Held = nil }, 0}, {func(v *View) { v.Held = []int{0, 0, 9} }, 0},
		{func(v *View) { v.Runs = v.Runs[:1] }, 5}, {func(v *View) { v.Runs[1] = v.Runs[1][:1] }, 5}, {func(v *View) { v.Runs[1] = append(v.Runs[1], api.Task{Job: 5, Task: 1}) }, 5},
		{func(v *View) { v.Runs[0], v.Runs[1] = v.Runs[1], v.Runs[0] }, 5}, {func(v *View) { v.Runs[0] = nil; v.Waits = 9 }, 5}, {func(v *View) { v.Runs[1][0] = api.Task{Job: 5, Task: 3} }, 5},
		{func(v *View) { v.Runs = append(v.Runs, v.Runs[0]) }, 0}, {func(v *View) { v.Events = append(v.Events, api.Event{Kind: api.Finished, Job: 5}) }, 5},
		{func(v *View) { v.Events = append(v.Events, api.Event{Kind: api.Finished, Job: 5}); v.Runs[0] = nil }, 0},
		{func(v *View) { v.Waits = 4; v.Net = 9999 }, 6}, {func(v *View) { v.Net = api.MaxNet + 1 }, 7},
	} {
		v := good()
		c.change(&v)
		if got := Verdict(v); got != c.want {
			t.Error(i, got)
		}
	}
	if Verdict(View{}) != 0 || Verdict(View{Waits: 1}) != 6 || Verdict(View{Events: []api.Event{{Kind: api.Launched, Job: 5}}}) != 1 {
		t.Error("small views")
	}
}

func TestMemory(t *testing.T) {
	v := good()
	Verdict(v)
	if !slices.Equal(v.Runs[1], good().Runs[1]) || !book.Same(v.Book, good().Book) {
		t.Error("the view is changed")
	}
}

func TestLeftAndIdle(t *testing.T) {
	v := good()
	v.Jobs = append(v.Jobs, api.Job{ID: 3, Needs: []string{"gpu", "*"}})
	v.Events = append(v.Events, api.Event{Kind: api.Accepted, Job: 3}, api.Event{Kind: api.Accepted, Job: 3}, api.Event{Kind: api.Launched, Job: 5, Task: 3})
	if got := Left(v); !slices.Equal(got, []api.Task{{Job: 5, Task: 3}, {Job: 3}, {Job: 3, Task: 1}}) {
		t.Error(got)
	}
	if len(Left(View{})) != 0 {
		t.Error("nothing")
	}
	if Idle(v) || !Idle(View{}) || !Idle(View{Conf: wide(), Queues: []int{0, 0}}) || Idle(View{Conf: wide(), Queues: []int{0, 1}}) {
		t.Error("idle")
	}
}

func TestLook(t *testing.T) {
	k := cluster.New(wide())
	for id := 1; id < 5; id++ {
		k.Submit(0, api.Job{ID: id, Needs: []string{"*"}})
	}
	for range 30 {
		k.Deliver(0)
	}
	k.Submit(0, api.Job{ID: 9, Needs: []string{"gpu"}})
	v := Look(k)
	if !conf.Same(v.Conf, wide()) || len(v.Jobs) != 5 || len(v.Events) != len(k.Events()) || !book.Same(v.Book, k.Book()) || v.Net != len(k.Net()) || v.Net == 0 {
		t.Error(v)
	}
	for i := range 2 {
		s := k.Worker(i).Slots()
		if v.Queues[i] != len(k.Worker(i).Queue()) || v.Held[i] != len(s.Asked)+len(s.Running) || !slices.Equal(v.Runs[i], s.Running) || len(s.Running) == 0 {
			t.Error(i, v)
		}
	}
	most := 0
	for _, chief := range []int{0, 1, 2} {
		for _, mate := range []int{8, 9} {
			most = max(most, k.Waits(chief, mate), k.Waits(mate, chief))
		}
	}
	if v.Waits != most || most == 0 || len(v.Queues) != 2 || len(v.Held) != 2 || len(v.Runs) != 2 {
		t.Error(v.Waits)
	}
	if n := Look(nil); n.Waits != 0 || n.Events != nil || n.Queues != nil || !conf.Same(n.Conf, api.Conf{}) {
		t.Error(n)
	}
	if x := Look(cluster.New(wide())); len(x.Queues) != 2 || x.Waits != 0 || x.Net != 0 {
		t.Error(x)
	}
}

func TestWaits(t *testing.T) {
	k := cluster.New(wide())
	k.Submit(0, api.Job{ID: 1, Needs: []string{"*"}})
	k.Submit(2, api.Job{ID: 2, Needs: []string{"*"}})
	k.Submit(2, api.Job{ID: 3, Needs: []string{"*"}})
	if Look(k).Waits != 2 {
		t.Error(Look(k).Waits)
	}
	for range 5 {
		k.Deliver(2)
	}
	if v := Look(k); v.Waits != 3 && v.Waits != 2 || Verdict(v) != 0 {
		t.Error(v.Waits)
	}
}

func TestAlwaysNothing(t *testing.T) {
	for seed := range int64(20) {
		r := rand.New(rand.NewSource(seed))
		k := cluster.New(wide())
		for step := range 800 {
			n := max(len(k.Net()), 1)
			switch r.Intn(20) {
			case 0:
				k.Submit(r.Intn(3), api.Job{ID: 1 + r.Intn(9), Needs: []string{"*", "gpu", "!gpu"}[:1+r.Intn(3)]})
			case 1, 2:
				k.Tick()
			case 3:
				k.Lose(r.Intn(n))
			case 4:
				k.Twice(r.Intn(n))
			case 5:
				k.Spoil(r.Intn(n), r.Intn(150), r.Uint32())
			case 6, 7:
				k.Finish(r.Intn(2), r.Intn(2))
			case 8:
				k.Start(r.Intn(3))
				if r.Intn(4) == 0 {
					k.Crash(r.Intn(3))
				}
			case 9:
				k.Fuse(r.Intn(40) - 20)
			default:
				k.Deliver(r.Intn(n))
			}
			if step%20 == 0 {
				if got := Verdict(Look(k)); got != 0 {
					t.Fatal(seed, step, got)
				}
			}
		}
	}
}
