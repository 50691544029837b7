package cluster

import (
	"math"
	"math/rand"
	"slices"
	"testing"

	"siskin/api"
	"siskin/book"
	"siskin/conf"
	"siskin/event"
	"siskin/msg"
	"siskin/net"
	"siskin/pack"
	"siskin/rec"
	"siskin/spec"
)

func small() api.Conf {
	return api.Conf{Scheds: 1, Lease: 9, Again: 3, Room: 2000, Out: 4, Workers: []api.Worker{{Slots: 1, Limit: 2}}}
}

func wide() api.Conf {
	return api.Conf{Scheds: 3, Lease: 4, Again: 3, Room: 3000, Out: 3, Names: []string{"gpu"},
		Workers: []api.Worker{{Slots: 1, Limit: 1, Attrs: 1}, {Slots: 2, Limit: 2}, {Slots: 1, Limit: 1}}}
}

func of(id int, needs ...string) api.Job { return api.Job{ID: id, Needs: needs} }

// sights are what is in transit, opened.
type sight struct {
	kind, from, to int
	m              api.Msg
}

func sights(t *testing.T, k *Cluster) []sight {
	t.Helper()
	var l []sight
	for _, x := range k.Net() {
		p, e := pack.Open(x.Bytes)
		if e != api.OK || p.From != x.From || p.To != x.To {
			t.Fatal(x, e)
		}
		m, _ := msg.Parse(p.Body)
		l = append(l, sight{p.Kind, p.From, p.To, m})
	}
	return l
}

func expect(t *testing.T, what string, k *Cluster, want ...sight) {
	t.Helper()
	if got := sights(t, k); !slices.Equal(got, want) {
		t.Errorf("%s: %v", what, got)
	}
}

func ok(t *testing.T, l ...api.Errno) {
	t.Helper()
	for i, e := range l {
		if e != api.OK {
			t.Fatal(i, e)
		}
	}
}

func TestExample(t *testing.T) {
	k := New(small())
	ok(t, k.Submit(0, of(5, "*")))
	expect(t, "submit", k, sight{pack.Data, 0, 8, api.Msg{Kind: api.Probe, Job: 5, Epoch: 1}})
	ok(t, k.Deliver(0))
	expect(t, "probe", k, sight{pack.Ack, 8, 0, api.Msg{}}, sight{pack.Data, 8, 0, api.Msg{Kind: api.Get, Job: 5}})
	if k.Waits(0, 8) != 1 || k.Waits(8, 0) != 1 {
		t.Error("waits")
	}
	ok(t, k.Deliver(0))
	if k.Waits(0, 8) != 0 {
		t.Error("acknowledged")
	}
	ok(t, k.Deliver(0))
	expect(t, "get", k, sight{pack.Ack, 0, 8, api.Msg{}}, sight{pack.Data, 0, 8, api.Msg{Kind: api.Assign, Job: 5, Epoch: 1}})
	if s, e := k.Status(5); e != api.OK || !slices.Equal(s, []int{1}) {
		t.Error("bound", s)
	}
	ok(t, k.Deliver(0), k.Deliver(0))
	expect(t, "assign", k, sight{pack.Ack, 8, 0, api.Msg{}}, sight{pack.Bare, 8, 0, api.Msg{Kind: api.Have, Job: 5}})
	ok(t, k.Finish(0, 0))
	if k.Finish(0, 0) != api.ErrRange {
		t.Error("nothing runs")
	}
	ok(t, k.Deliver(2), k.Deliver(0), k.Deliver(0))
	expect(t, "done", k, sight{pack.Ack, 0, 8, api.Msg{}}, sight{pack.Bare, 0, 8, api.Msg{Kind: api.Thanks, Job: 5}})
	if s, _ := k.Status(5); !slices.Equal(s, []int{2}) {
		t.Error("done", s)
	}
	want := []api.Event{{Kind: api.Accepted, Job: 5}, {Kind: api.Launched, Job: 5}, {Kind: api.Finished, Job: 5}}
	if !slices.Equal(k.Events(), want) || len(k.Jobs()) != 1 || len(k.Book()) != 1 {
		t.Error(k.Events())
	}
}

func TestNew(t *testing.T) {
	bad := wide()
	bad.Scheds = 9
	if New(bad) != nil || New(api.Conf{}) != nil {
		t.Error("an invalid configuration")
	}
	k := New(wide())
	if !conf.Same(k.Conf(), wide()) || len(k.Net())+len(k.Book())+len(k.Jobs())+len(k.Events()) != 0 {
		t.Error("new")
	}
	for sched, want := range map[int]bool{0: true, 2: true, 3: false, -1: false, 8: false, math.MinInt: false} {
		if k.Up(sched) != want {
			t.Error(sched)
		}
	}
	if k.Worker(2) == nil || k.Worker(3) != nil || k.Worker(-1) != nil || len(k.Worker(1).Slots().Running) != 0 || k.Worker(1).Slots().N != 2 {
		t.Error("workers")
	}
	if k.Waits(3, 8) != 0 || k.Waits(11, 0) != 0 || k.Waits(-1, 0) != 0 || k.Waits(0, 99) != 0 || k.Waits(math.MinInt, 0) != 0 {
		t.Error("waits")
	}
}

func TestSubmit(t *testing.T) {
	k := New(wide())
	k.Draw(2)
	for i, c := range []struct {
		sched int
		j     api.Job
		e     api.Errno
	}{
		{3, of(5, "*"), api.ErrRange}, {-1, of(5, "*"), api.ErrRange}, {0, of(5), api.ErrEmpty}, {1, of(5, "gpu"), api.OK}, {0, of(5, "gpu"), api.ErrThere}, {0, of(6, "tpu"), api.ErrName},
		{0, of(6, "!!!gpu & gpu"), api.ErrWorker},
	} {
		if e := k.Submit(c.sched, c.j); e != c.e {
			t.Error(i, e)
		}
	}
	ok(t, k.Crash(2))
	if k.Submit(2, of(6, "*")) != api.ErrDown || k.Submit(2, of(6)) != api.ErrDown {
		t.Error("down")
	}
	if len(k.Jobs()) != 1 || len(k.Events()) != 1 || k.Book()[0].Sched != 1 {
		t.Error(k.Events())
	}
	if _, e := k.Status(6); e != api.ErrNone {
		t.Error(e)
	}
}

func TestBareAndRepeated(t *testing.T) {
	k := New(wide())
	ok(t, k.Tick())
	var want []sight
	for from := range 3 {
		for to := range 3 {
			if from != to {
				want = append(want, sight{pack.Bare, from, to, api.Msg{Kind: api.Beat}})
			}
		}
	}
	expect(t, "beats", k, want...)
	k = New(small())
	for id := 1; id < 5; id++ {
		ok(t, k.Submit(0, of(id, "*")))
	}
	if k.Waits(0, 8) != 4 || len(k.Net()) != 1 {
		t.Error("one at a time")
	}
	ok(t, k.Submit(0, of(5, "*")))
	if k.Waits(0, 8) != 4 {
		t.Error("what the port refuses is lost")
	}
	ok(t, k.Tick())
	expect(t, "repeated", k, sight{pack.Data, 0, 8, api.Msg{Kind: api.Probe, Job: 1, Epoch: 1}}, sight{pack.Data, 0, 8, api.Msg{Kind: api.Probe, Job: 1, Epoch: 1}})
}

func TestWorkersTick(t *testing.T) {
	k := New(small())
	ok(t, k.Submit(0, of(5, "*")), k.Deliver(0), k.Lose(1))
	ok(t, k.Tick())
	get := sight{pack.Data, 8, 0, api.Msg{Kind: api.Get, Job: 5}}
	if l := sights(t, k); !slices.Contains(l, get) {
		t.Error("the port of a worker does not tick", l)
	}
	for range 12 {
		ok(t, k.Deliver(0))
		if len(k.Net()) == 0 {
			break
		}
	}
	ok(t, k.Finish(0, 0), k.Deliver(0), k.Deliver(0), k.Lose(0))
	done := sight{pack.Data, 8, 0, api.Msg{Kind: api.Done, Job: 5}}
	if l := sights(t, k); len(l) != 0 || k.Waits(8, 0) != 0 {
		t.Fatal("the Thanks is lost", l)
	}
	ok(t, k.Tick())
	expect(t, "too early", k)
	ok(t, k.Tick())
	if l := sights(t, k); !slices.Contains(l, done) {
		t.Error("a worker does not tick", l)
	}
}

func TestFinishRange(t *testing.T) {
	k := New(small())
	for _, worker := range []int{-1, 1, 64, math.MinInt, math.MaxInt} {
		if k.Finish(worker, 0) != api.ErrRange {
			t.Error(worker)
		}
	}
	for _, i := range []int{-1, 0, 1, math.MinInt, math.MaxInt} {
		if k.Finish(0, i) != api.ErrRange {
			t.Error(i)
		}
	}
}

func TestDraw(t *testing.T) {
	k := New(wide())
	k.Draw(2)
	k.Draw(1, 7)
	ok(t, k.Submit(0, of(5, "*")))
	expect(t, "drawn", k, sight{pack.Data, 0, 10, api.Msg{Kind: api.Probe, Job: 5, Epoch: 1}}, sight{pack.Data, 0, 9, api.Msg{Kind: api.Probe, Job: 5, Epoch: 1}})
}

func TestNetCalls(t *testing.T) {
	k := New(small())
	ok(t, k.Submit(0, of(5, "*")))
	for i, f := range []func(int) api.Errno{k.Deliver, k.Lose, k.Twice, func(i int) api.Errno { return k.Spoil(i, 0, 1) }} {
		if f(1) != api.ErrRange || f(-1) != api.ErrRange || f(math.MinInt) != api.ErrRange {
			t.Error(i)
		}
	}
	first := k.Net()[0]
	ok(t, k.Twice(0), k.Spoil(1, 3, 5))
	if k.Spoil(1, 3, 5) != api.ErrThere || k.Spoil(0, -1, 5) != api.ErrRange {
		t.Error("spoil")
	}
	ok(t, k.Deliver(1))
	if !slices.Equal(k.Net(), []net.Thing{first}) || len(k.Worker(0).Slots().Asked) != 0 {
		t.Error("corruption is loss")
	}
	ok(t, k.Lose(0))
	if len(k.Net()) != 0 || k.Lose(0) != api.ErrRange {
		t.Error("lose")
	}
}

func TestArrivesOnceThoughThrice(t *testing.T) {
	k := New(small())
	ok(t, k.Submit(0, of(5, "*")), k.Deliver(0), k.Deliver(0), k.Deliver(0))
	assign := len(k.Net()) - 1
	ok(t, k.Twice(assign), k.Twice(assign))
	for len(k.Net()) > 0 {
		ok(t, k.Deliver(0))
	}
	if !slices.Equal(k.Events(), []api.Event{{Kind: api.Accepted, Job: 5}, {Kind: api.Launched, Job: 5}}) {
		t.Error(k.Events())
	}
}

func TestCrashAndStart(t *testing.T) {
	k := New(wide())
	if k.Crash(3) != api.ErrRange || k.Crash(-1) != api.ErrRange || k.Start(3) != api.ErrRange || k.Start(-1) != api.ErrRange || k.Start(0) != api.ErrThere {
		t.Error("range")
	}
	ok(t, k.Submit(0, of(5, "gpu")))
	things := len(k.Net())
	ok(t, k.Crash(0))
	if k.Crash(0) != api.ErrDown || k.Up(0) || k.Waits(0, 8) != 0 || len(k.Net()) != things || len(k.Book()) != 1 {
		t.Error("crash")
	}
	ok(t, k.Deliver(0))
	for range len(k.Net()) {
		ok(t, k.Deliver(0))
	}
	if len(k.Net()) != 0 {
		t.Error("a node that is down answers", k.Net())
	}
	ok(t, k.Start(0))
	if !k.Up(0) {
		t.Error("start")
	}
	ok(t, k.Tick())
	for _, x := range k.Net() {
		p, _ := pack.Open(x.Bytes)
		if p.From == 0 && p.Inc != 2 || p.From != 0 && p.Inc != 1 {
			t.Error(p)
		}
	}
	ok(t, k.Crash(0), k.Start(0), k.Tick())
	x := k.Net()[len(k.Net())-1]
	if p, _ := pack.Open(x.Bytes); p.Inc != 1 {
		t.Error(p)
	}
	found := false
	for _, x := range k.Net() {
		p, _ := pack.Open(x.Bytes)
		found = found || p.From == 0 && p.Inc == 3
	}
	if !found {
		t.Error("the third incarnation")
	}
}

func TestTakeOver(t *testing.T) {
	k := New(wide())
	ok(t, k.Submit(0, of(5, "gpu")), k.Deliver(0), k.Deliver(1))
	if s, _ := k.Status(5); !slices.Equal(s, []int{1}) {
		t.Fatal(s)
	}
	ok(t, k.Crash(0))
	for range 12 {
		ok(t, k.Tick())
		for range len(k.Net()) {
			ok(t, k.Deliver(0))
		}
	}
	e := k.Book()[0]
	if e.Sched == 0 || e.Epoch != 2 || e.Bound[0] != 1 {
		t.Error(e)
	}
	if l := k.Events(); !slices.Equal(l, []api.Event{{Kind: api.Accepted, Job: 5}, {Kind: api.Launched, Job: 5}}) {
		t.Error(l)
	}
}

func TestPowerInSubmit(t *testing.T) {
	size := rec.Size(api.Rec{Kind: api.Accept, Job: 5, Needs: []string{"*"}})
	for fuse := range size + 2 {
		k := New(wide())
		k.Fuse(fuse)
		if e := k.Submit(0, of(5, "*")); e != api.ErrPower || k.Up(0) || len(k.Net()) != 0 {
			t.Fatal(fuse, e)
		}
		whole := fuse >= size
		if accepted := len(k.Jobs()) == 1 && len(k.Events()) == 1 && len(k.Book()) == 1; accepted != whole || !whole && len(k.Jobs())+len(k.Events())+len(k.Book()) != 0 {
			t.Fatal(fuse, k.Events())
		}
		want := api.OK
		if whole {
			want = api.ErrThere
		}
		if e := k.Submit(1, of(5, "*")); e != want {
			t.Fatal(fuse, e)
		}
	}
	k := New(wide())
	k.Fuse(3)
	k.Fuse(-1)
	ok(t, k.Submit(0, of(5, "*")))
}

func TestPowerInBind(t *testing.T) {
	size := rec.Size(api.Rec{Kind: api.Bind, Job: 5, Epoch: 1})
	for fuse := range size + 1 {
		k := New(small())
		ok(t, k.Submit(0, of(5, "*")), k.Deliver(0), k.Deliver(0))
		k.Fuse(fuse)
		ok(t, k.Deliver(0))
		if k.Up(0) || len(k.Net()) != 0 || len(k.Events()) != 1 {
			t.Fatal(fuse, "nothing is sent")
		}
		want := 0
		if fuse == size {
			want = 1
		}
		if s, _ := k.Status(5); s[0] != want {
			t.Fatal(fuse, s)
		}
		ok(t, k.Start(0))
		for range 20 {
			ok(t, k.Tick())
			for range len(k.Net()) {
				ok(t, k.Deliver(0))
			}
		}
		if len(k.Events()) != 2 {
			t.Fatal(fuse, k.Events())
		}
	}
}

func TestPowerInTick(t *testing.T) {
	k := New(wide())
	ok(t, k.Submit(0, of(5, "*")), k.Crash(0))
	for range 3 {
		ok(t, k.Tick())
		for range len(k.Net()) {
			ok(t, k.Lose(0))
		}
	}
	k.Fuse(1)
	ok(t, k.Tick())
	if k.Up(1) || !k.Up(2) || k.Book()[0].Sched != 2 || k.Book()[0].Epoch != 2 {
		t.Error(k.Book())
	}
	for _, x := range k.Net() {
		if x.From == 1 {
			t.Error("sent by the one that crashed")
		}
	}
}

func TestMemory(t *testing.T) {
	c := wide()
	k := New(c)
	c.Names[0], c.Workers[0].Slots = "x", 99
	j := of(5, "gpu", "*")
	ok(t, k.Submit(0, j))
	j.Needs[0] = "x"
	k.Conf().Workers[0].Slots = 98
	k.Jobs()[0].Needs[0] = "y"
	k.Book()[0].Bound[0] = 7
	k.Events()[0].Job = 8
	k.Net()[0].From = 9
	k.Worker(0).Take(0, api.Msg{Kind: api.Assign, Job: 9, Epoch: 1})
	if !conf.Same(k.Conf(), wide()) || k.Jobs()[0].Needs[0] != "gpu" || k.Book()[0].Bound[0] != 0 || k.Events()[0].Job != 5 || k.Net()[0].From != 0 || len(k.Worker(0).Table()) != 0 {
		t.Error("shares memory")
	}
}

func TestNil(t *testing.T) {
	var k *Cluster
	k.Fuse(1)
	k.Draw(1)
	_, status := k.Status(5)
	for i, e := range []api.Errno{k.Submit(0, of(5, "*")), status, k.Deliver(0), k.Lose(0), k.Twice(0), k.Spoil(0, 0, 1), k.Tick(), k.Finish(0, 0), k.Crash(0), k.Start(0)} {
		if e != api.ErrArg {
			t.Error(i, e)
		}
	}
	if !conf.Same(k.Conf(), api.Conf{}) || k.Up(0) || len(k.Book())+len(k.Jobs())+len(k.Events())+len(k.Net()) != 0 || k.Worker(0) != nil || k.Waits(0, 8) != 0 || k.Waits(8, 0) != 0 {
		t.Error("nil")
	}
}

// chaos does one random action, and returns it for a message.
func chaos(r *rand.Rand, k *Cluster) {
	n := max(len(k.Net()), 1)
	switch c := k.Conf(); r.Intn(30) {
	case 0, 1:
		needs := []string{"*", "gpu", "!gpu", "gpu | !gpu", "tpu"}
		j := of(1+r.Intn(8), needs[r.Intn(5)], needs[r.Intn(4)])
		sched := r.Intn(c.Scheds)
		want := spec.Answer(c, k.Book(), j)
		up := k.Up(sched)
		if e := k.Submit(sched, j); up && e != api.ErrPower && e != want {
			panic("answer")
		}
	case 2, 3, 4:
		k.Tick()
	case 5:
		k.Lose(r.Intn(n))
	case 6:
		k.Twice(r.Intn(n))
	case 7:
		k.Spoil(r.Intn(n), r.Intn(200), r.Uint32()|1)
	case 8, 9:
		k.Finish(r.Intn(len(c.Workers)), r.Intn(2))
	case 10:
		if r.Intn(3) == 0 {
			k.Crash(r.Intn(c.Scheds))
		}
	case 11:
		k.Start(r.Intn(c.Scheds))
	case 12:
		if r.Intn(3) == 0 {
			k.Fuse(r.Intn(20))
		}
	case 13:
		k.Draw(r.Uint64(), r.Uint64())
	default:
		k.Deliver(r.Intn(n))
	}
}

func TestSafety(t *testing.T) {
	launches := 0
	for seed := range int64(60) {
		r := rand.New(rand.NewSource(seed))
		k := New(wide())
		states := map[int][]int{}
		var before []api.Entry
		for step := range 1500 {
			chaos(r, k)
			now := k.Book()
			for i, old := range before {
				x := now[i]
				if x.ID != old.ID || x.Epoch < old.Epoch || x.Sched != old.Sched && x.Epoch == old.Epoch {
					t.Fatal(seed, step, old, x)
				}
				for task := range old.Bound {
					if old.Bound[task] != 0 && x.Bound[task] != old.Bound[task] || old.Done[task] && !x.Done[task] {
						t.Fatal(seed, step, old, x)
					}
				}
			}
			before = now
			for _, e := range now {
				s, _ := k.Status(e.ID)
				for i, old := range states[e.ID] {
					if s[i] < old {
						t.Fatal(seed, step, "a state goes back")
					}
				}
				states[e.ID] = s
			}
			if step%25 != 0 {
				continue
			}
			state, n := event.Run(k.Conf(), k.Jobs(), k.Events()...)
			if n != len(k.Events()) || !spec.Fits(now, state) {
				t.Fatal(seed, step, k.Events()[n:])
			}
			for i, w := range k.Conf().Workers {
				if event.Running(state, i) > w.Slots || len(k.Worker(i).Slots().Running) != event.Running(state, i) {
					t.Fatal(seed, step, "slots")
				}
			}
		}
		for _, e := range k.Events() {
			if e.Kind == api.Launched {
				launches++
			}
		}
		if len(k.Jobs()) != len(k.Book()) || book.Same(k.Book(), nil) {
			t.Fatal(seed, "jobs")
		}
	}
	if launches < 60 {
		t.Error("too little happened", launches)
	}
}

func TestCorruptionIsLoss(t *testing.T) {
	spoiled := 0
	for seed := range int64(30) {
		r, again := rand.New(rand.NewSource(seed)), rand.New(rand.NewSource(seed))
		lost, turned := New(wide()), New(wide())
		choose := rand.New(rand.NewSource(seed + 1000))
		for step := range 600 {
			chaos(r, lost)
			chaos(again, turned)
			n := len(lost.Net())
			if step%7 != 0 || n == 0 {
				continue
			}
			i := choose.Intn(n)
			bits := 8 * (len(turned.Net()[i].Bytes) - 1)
			lost.Lose(i)
			if turned.Spoil(i, choose.Intn(bits), choose.Uint32()|1) == api.OK {
				spoiled++
			}
			turned.Deliver(i)
			if !slices.Equal(lost.Net(), turned.Net()) || !slices.Equal(lost.Events(), turned.Events()) || !book.Same(lost.Book(), turned.Book()) {
				t.Fatal(seed, step)
			}
		}
		for i := range wide().Workers {
			a, b := lost.Worker(i), turned.Worker(i)
			if !slices.Equal(a.Queue(), b.Queue()) || !slices.Equal(a.Table(), b.Table()) {
				t.Fatal(seed, i)
			}
		}
	}
	if spoiled < 500 {
		t.Error(spoiled)
	}
}
