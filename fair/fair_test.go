package fair

import (
	"math"
	"math/rand"
	"slices"
	"testing"

	"siskin/api"
	"siskin/book"
	"siskin/cluster"
	"siskin/judge"
)

func wide() api.Conf {
	return api.Conf{Scheds: 3, Lease: 6, Again: 2, Room: 6000, Out: 3, Names: []string{"gpu"},
		Workers: []api.Worker{{Slots: 1, Limit: 1, Attrs: 1}, {Slots: 2, Limit: 2}, {Slots: 1, Limit: 3, Attrs: 1}}}
}

func of(id int, needs ...string) api.Job { return api.Job{ID: id, Needs: needs} }

func TestNew(t *testing.T) {
	k := cluster.New(wide())
	for f, want := range map[int]bool{0: false, -1: false, 1: true, 100: true, 101: false, math.MinInt: false, math.MaxInt: false} {
		if d := New(k, f); (d != nil) != want {
			t.Error(f)
		}
	}
	if New(nil, 1) != nil {
		t.Error("nil")
	}
	choices := []uint8{0, 0}
	d := New(k, 2, choices...)
	choices[0] = 1
	k.Tick()
	d.Round()
	if d.Lost() != 0 {
		t.Error("the choices are copied")
	}
}

func TestLosses(t *testing.T) {
	// With F 3 and odd choices only, a thing is lost twice, and then delivered.
	k := cluster.New(wide())
	d := New(k, 3, 1)
	k.Tick()
	things := len(k.Net())
	for round, lost := range []int{things, 2 * things, 2 * things, 3 * things, 4 * things, 4 * things} {
		d.Round()
		if d.Lost() != lost || d.Rounds() != round+1 {
			t.Error(round, d.Lost())
		}
	}
	// With F 1 nothing is lost.
	k = cluster.New(wide())
	d = New(k, 1, 1, 3, 255)
	for range 5 {
		d.Round()
	}
	if d.Lost() != 0 || d.Rounds() != 5 {
		t.Error(d.Lost())
	}
}

func TestChoicesInOrder(t *testing.T) {
	k := cluster.New(wide())
	k.Tick()
	if d := New(k, 2, 1, 0, 0, 0); len(k.Net()) == 6 {
		d.Round()
		if d.Lost() != 2 {
			t.Error("the first and the fifth", d.Lost())
		}
	}
	k = cluster.New(wide())
	k.Tick()
	d := New(k, 2, 0, 1, 2)
	before := k.Net()
	d.Round()
	// The second and the fifth of the six beats are lost, and once more they may not be.
	if d.Lost() != 2 || len(before) != 6 {
		t.Error(d.Lost(), len(before))
	}
	d.Round()
	if d.Lost() != 2 {
		t.Error("what was lost before is delivered", d.Lost())
	}
	d.Round()
	if d.Lost() != 4 {
		t.Error("what was delivered may be lost again", d.Lost())
	}
}

// running is a cluster with one worker on which a task runs, and nothing is in transit.
func running(t *testing.T, slots int, needs ...string) *cluster.Cluster {
	t.Helper()
	k := cluster.New(api.Conf{Scheds: 1, Lease: 9, Again: 99, Room: 2000, Out: 4, Workers: []api.Worker{{Slots: slots, Limit: 2}}})
	k.Submit(0, of(5, needs...))
	for len(k.Net()) > 0 {
		k.Deliver(0)
	}
	if len(k.Worker(0).Slots().Running) == 0 {
		t.Fatal("nothing runs")
	}
	return k
}

func finished(k *cluster.Cluster) int {
	n := 0
	for _, e := range k.Events() {
		if e.Kind == api.Finished {
			n++
		}
	}
	return n
}

func TestRuns(t *testing.T) {
	for f := 1; f < 5; f++ {
		k := running(t, 1, "*")
		d := New(k, f)
		for round := 1; round <= f; round++ {
			if finished(k) != 0 {
				t.Error(f, round)
			}
			d.Round()
		}
		if finished(k) != 1 {
			t.Error(f)
		}
	}
	k := running(t, 1, "*")
	New(k, 50, 1).Round()
	if finished(k) != 1 {
		t.Error("an odd choice")
	}
}

func TestUntil(t *testing.T) {
	k := cluster.New(wide())
	d := New(k, 2, 1, 0, 0, 1, 1)
	if d.Until(100) != 0 {
		t.Error("nothing is left")
	}
	k.Submit(0, of(5, "*", "gpu", "!gpu"))
	if d.Until(0) != 0 || d.Until(-1) != 0 || d.Until(math.MinInt) != 0 || d.Until(1) != 1 || d.Rounds() != 1 {
		t.Error("most")
	}
	n := d.Until(1000)
	if n == 0 || n == 1000 || d.Rounds() != n+1 || len(judge.Left(judge.Look(k))) != 0 {
		t.Error(n)
	}
}

func TestWithin(t *testing.T) {
	c := wide()
	for i, x := range []struct{ f, tasks, want int }{
		{2, 3, 5 * (6 + 4*7*(32*2*3+16+8))}, {0, 0, 2 * (6 + 4*7*16)}, {-1, 0, 0}, {0, -1, 0}, {1001, 0, 0}, {0, 1001, 0}, {1000, 1000, 1002 * (6 + 4*7*(32*1000*3+16+4000))},
		{math.MaxInt, 1, 0}, {1, math.MinInt, 0},
	} {
		if got := Within(c, x.f, x.tasks); got != x.want {
			t.Error(i, got)
		}
	}
	c.Workers = []api.Worker{{Limit: 2}, {Limit: 5}, {Limit: 1}}
	if Within(c, 0, 0) != 2*(6+4*9*16) || Within(api.Conf{Workers: []api.Worker{{Limit: 5}, {Limit: 1}}, Again: 1}, 0, 0) != 2*4*9*8 {
		t.Error("the greatest limit")
	}
	c.Workers = nil
	if Within(c, 1, 0) != 2*(6+16*(96+16+4)) {
		t.Error("no workers")
	}
}

func TestNil(t *testing.T) {
	var d *Driver
	d.Round()
	if d.Rounds() != 0 || d.Lost() != 0 || d.Until(5) != 0 {
		t.Error("nil")
	}
}

// unsettle does a random action.
func unsettle(r *rand.Rand, k *cluster.Cluster) {
	n := max(len(k.Net()), 1)
	needs := []string{"*", "gpu", "!gpu", "gpu | !gpu"}
	switch r.Intn(24) {
	case 0, 1:
		k.Submit(r.Intn(3), of(1+r.Intn(12), needs[r.Intn(4)], needs[r.Intn(4)]))
	case 2, 3:
		k.Tick()
	case 4, 5:
		k.Lose(r.Intn(n))
	case 6:
		k.Twice(r.Intn(n))
	case 7:
		k.Spoil(r.Intn(n), r.Intn(150), r.Uint32())
	case 8:
		k.Finish(r.Intn(3), r.Intn(2))
	case 9:
		k.Start(r.Intn(3))
		if r.Intn(4) == 0 {
			k.Crash(r.Intn(3))
		}
	case 10:
		k.Fuse(r.Intn(60) - 40)
	case 11:
		k.Draw(r.Uint64(), r.Uint64())
	default:
		k.Deliver(r.Intn(n))
	}
}

// settle ends what makes the net unfair, and reports whether every job can still be taken over.
func settle(k *cluster.Cluster, up ...int) bool {
	k.Fuse(-1)
	for _, sched := range up {
		k.Start(sched)
	}
	for _, e := range k.Book() {
		if book.Left(e) > 0 && e.Epoch == api.MaxEpoch && !k.Up(e.Sched) {
			return false
		}
	}
	return true
}

func TestProgress(t *testing.T) {
	for seed := range int64(60) {
		r := rand.New(rand.NewSource(seed))
		k := cluster.New(wide())
		for range 300 + r.Intn(600) {
			unsettle(r, k)
		}
		up := []int{0, 1, 2}
		if seed%2 == 0 {
			up = up[:1]
		}
		if !settle(k, up...) {
			continue
		}
		f := 1 + r.Intn(4)
		choices := make([]uint8, 1+r.Intn(40))
		r.Read(choices)
		d := New(k, f, choices...)
		left := len(judge.Left(judge.Look(k)))
		within := Within(k.Conf(), f, left)
		failover(t, k, d, f)
		d.Until(within)
		if v := judge.Look(k); len(judge.Left(v)) > 0 || judge.Verdict(v) != 0 || d.Rounds() > within {
			t.Fatal(seed, judge.Left(v), judge.Verdict(v))
		}
		if len(up) == 3 {
			atRest(t, k, d)
		}
	}
}

// atRest checks that all tasks finish, in the log, and that nothing is queued then. A worker that knows only an owner
// that is down may tell it in vain that a task is done; therefore all schedulers are up.
func atRest(t *testing.T, k *cluster.Cluster, d *Driver) {
	t.Helper()
	for n := 0; n < 5000 && !resting(k); n++ {
		d.Round()
	}
	if v := judge.Look(k); !resting(k) || len(slices.Concat(v.Runs...)) > 0 || judge.Verdict(v) != 0 {
		t.Fatal(v.Queues, v.Runs, v.Book)
	}
}

func resting(k *cluster.Cluster) bool {
	for _, e := range k.Book() {
		if book.Left(e) > 0 {
			return false
		}
	}
	return judge.Idle(judge.Look(k))
}

// failover checks that the jobs of schedulers that are down soon belong to others.
func failover(t *testing.T, k *cluster.Cluster, d *Driver, f int) {
	t.Helper()
	for range k.Conf().Lease + f + 2 {
		d.Round()
	}
	for _, e := range k.Book() {
		if book.Left(e) > 0 && !k.Up(e.Sched) {
			t.Fatal("no failover", e)
		}
	}
}
