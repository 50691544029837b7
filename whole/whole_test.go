package whole

import (
	"slices"
	"testing"

	"siskin/api"
	"siskin/cluster"
	"siskin/judge"
	"siskin/msg"
	"siskin/pack"
	"siskin/rec"
)

// three is a cluster of three schedulers and three workers, of which the last one has no attributes.
func three() api.Conf {
	return api.Conf{Scheds: 3, Lease: 3, Again: 2, Room: 3000, Out: 4, Names: []string{"arm", "gpu"},
		Workers: []api.Worker{{Slots: 1, Limit: 1, Attrs: 2}, {Slots: 1, Limit: 2, Attrs: 3}, {Slots: 1, Limit: 2}}}
}

func small() api.Conf {
	c := three()
	c.Scheds, c.Workers = 1, c.Workers[:1]
	return c
}

func submit(t *testing.T, k *cluster.Cluster, sched, id int, needs ...string) {
	t.Helper()
	if e := k.Submit(sched, api.Job{ID: id, Needs: needs}); e != api.OK {
		t.Fatal(e)
	}
}

// carries returns the message that a thing in transit has, if it has one.
func carries(bytes string) api.Msg {
	p, _ := pack.Open(bytes)
	m, _ := msg.Parse(p.Body)
	return m
}

// flush delivers everything in order, but loses what lost says, and counts the messages that were delivered by kind.
func flush(k *cluster.Cluster, lost func(from, to int, m api.Msg) bool) map[int]int {
	count := map[int]int{}
	for len(k.Net()) > 0 {
		x := k.Net()[0]
		m := carries(x.Bytes)
		if lost != nil && lost(x.From, x.To, m) {
			k.Lose(0)
			continue
		}
		count[m.Kind]++
		k.Deliver(0)
	}
	return count
}

// of returns a loss of all messages of a kind.
func of(kind int) func(from, to int, m api.Msg) bool {
	return func(from, to int, m api.Msg) bool { return m.Kind == kind }
}

// launches returns the launches of a job.
func launches(k *cluster.Cluster, id int) []api.Event {
	var l []api.Event
	for _, e := range k.Events() {
		if e.Kind == api.Launched && e.Job == id {
			l = append(l, e)
		}
	}
	return l
}

func sound(t *testing.T, k *cluster.Cluster) {
	t.Helper()
	if v := judge.Verdict(judge.Look(k)); v != 0 {
		t.Error("verdict", v)
	}
}

func TestExample1(t *testing.T) {
	k := cluster.New(small())
	submit(t, k, 0, 5, "*")
	count := flush(k, nil)
	if count[api.Probe] != 1 || count[api.Get] != 1 || count[api.Assign] != 1 || len(launches(k, 5)) != 1 {
		t.Error(count)
	}
	sound(t, k)
}

func TestExample2(t *testing.T) {
	k := cluster.New(three())
	submit(t, k, 0, 5, "*", "*")
	count := flush(k, nil)
	l := launches(k, 5)
	if count[api.Probe] != 3 || count[api.Cancel]+count[api.NoTask] < 1 || len(l) != 2 || l[0].Worker == l[1].Worker {
		t.Error(count, l)
	}
	sound(t, k)
}

func TestExample3(t *testing.T) {
	k := cluster.New(small())
	submit(t, k, 0, 5, "*")
	flush(k, of(api.Assign))
	if len(launches(k, 5)) != 0 {
		t.Fatal("lost")
	}
	arrived := 0
	for range 12 {
		k.Tick()
		for i, x := range k.Net() {
			if carries(x.Bytes).Kind == api.Assign {
				k.Twice(i)
				k.Twice(i)
				arrived += 3
			}
		}
		flush(k, nil)
	}
	if arrived < 3 || len(launches(k, 5)) != 1 {
		t.Error(arrived, launches(k, 5))
	}
	sound(t, k)
}

func TestExample4(t *testing.T) {
	k := cluster.New(three())
	submit(t, k, 0, 5, "gpu & !arm")
	flush(k, of(api.Assign))
	bound := k.Book()[0].Bound[0]
	k.Crash(0)
	for range 12 {
		k.Tick()
		flush(k, nil)
	}
	e := k.Book()[0]
	if l := launches(k, 5); bound != 1 || len(l) != 1 || l[0].Worker != 0 || e.Sched == 0 || e.Epoch < 2 {
		t.Error(bound, e, l)
	}
	sound(t, k)
}

func TestExamples5And6(t *testing.T) {
	size := rec.Size(api.Rec{Kind: api.Bind, Job: 5, Epoch: 1})
	for _, fuse := range []int{size, size - 1} {
		k := cluster.New(three())
		k.Draw(1, 0)
		submit(t, k, 0, 5, "*")
		k.Fuse(fuse)
		flush(k, nil)
		bound := k.Book()[0].Bound[0]
		if k.Up(0) || (bound != 0) != (fuse == size) {
			t.Error(fuse, bound)
		}
		for range 20 {
			k.Tick()
			flush(k, nil)
		}
		l := launches(k, 5)
		if len(l) != 1 || fuse == size && l[0].Worker != bound-1 || k.Book()[0].Sched == 0 {
			t.Error(fuse, l)
		}
		sound(t, k)
	}
}

func TestExample7(t *testing.T) {
	k := cluster.New(three())
	submit(t, k, 0, 5, "*")
	for range 4 {
		k.Tick()
		flush(k, func(from, to int, m api.Msg) bool { return from == 0 || from >= 8 || to >= 8 })
	}
	if e := k.Book()[0]; e.Sched == 0 || !k.Up(0) {
		t.Fatal(e)
	}
	// A worker that was probed by the one thought silent still asks that one.
	count := map[int]int{}
	for range 30 {
		k.Tick()
		for kind, n := range flush(k, func(from, to int, m api.Msg) bool {
			return m.Kind != api.Beat && (from == 1 || from == 2 || to == 1 || to == 2)
		}) {
			count[kind] += n
		}
	}
	if count[api.Get] == 0 || count[api.NoTask] == 0 || count[api.Assign] != 0 || len(launches(k, 5)) != 0 {
		t.Error(count)
	}
	sound(t, k)
}

func TestExample8(t *testing.T) {
	k := cluster.New(small())
	submit(t, k, 0, 5, "*", "*")
	flush(k, nil)
	for range 8 {
		k.Tick()
		flush(k, nil)
	}
	if len(launches(k, 5)) != 1 {
		t.Error("one slot", launches(k, 5))
	}
	k.Finish(0, 0)
	for range 8 {
		k.Tick()
		flush(k, nil)
	}
	if len(launches(k, 5)) != 2 {
		t.Error("after the end", launches(k, 5))
	}
	sound(t, k)
}

func TestExample9(t *testing.T) {
	c := three()
	c.Workers = c.Workers[1:]
	k := cluster.New(c)
	if e := k.Submit(0, api.Job{ID: 5, Needs: []string{"gpu & !arm"}}); e != api.ErrWorker || len(k.Events()) != 0 || len(k.Net()) != 0 {
		t.Error(e)
	}
}

func TestExample10(t *testing.T) {
	k := cluster.New(small())
	for id := 1; id < 4; id++ {
		submit(t, k, 0, id, "*")
	}
	// The first job's task runs, the second one is queued, and there is no place for the third.
	count := flush(k, nil)
	if count[api.Full] != 1 || len(launches(k, 1)) != 1 || len(k.Worker(0).Queue()) != 1 || k.Worker(0).Queue()[0].Job != 2 {
		t.Error(count, k.Worker(0).Queue())
	}
	sound(t, k)
}

func TestStatus(t *testing.T) {
	k := cluster.New(small())
	if _, e := k.Status(5); e != api.ErrNone {
		t.Error(e)
	}
	submit(t, k, 0, 5, "*")
	seen := [][]int{}
	look := func() {
		s, _ := k.Status(5)
		if n := len(seen); n == 0 || !slices.Equal(seen[n-1], s) {
			seen = append(seen, s)
		}
	}
	look()
	for len(k.Net()) > 0 {
		k.Deliver(0)
		look()
	}
	k.Finish(0, 0)
	look()
	flush(k, nil)
	look()
	if len(seen) != 3 || seen[0][0] != 0 || seen[1][0] != 1 || seen[2][0] != 2 {
		t.Error(seen)
	}
}
