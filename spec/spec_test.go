package spec

import (
	"math"
	"math/rand"
	"slices"
	"testing"

	"siskin/api"
	"siskin/book"
	"siskin/disk"
	"siskin/event"
	"siskin/ledger"
	"siskin/rec"
)

var cluster = api.Conf{Scheds: 1, Lease: 9, Again: 1, Room: 200, Out: 1, Names: []string{"gpu"}, Workers: []api.Worker{{Slots: 1, Limit: 1}}}

func of(id int, needs ...string) api.Job { return api.Job{ID: id, Needs: needs} }

func entry(id int, needs ...string) api.Entry {
	return api.Entry{ID: id, Epoch: 1, Needs: needs, Bound: make([]int, len(needs)), Done: make([]bool, len(needs))}
}

func TestAnswer(t *testing.T) {
	var many []api.Entry
	for i := range 40 {
		many = append(many, api.Entry{ID: i + 10})
	}
	most := rec.Most(2, 0, []string{"*"})
	exact := cluster
	exact.Room = 2 * most
	tight := cluster
	tight.Room = 2*most - 1
	for i, c := range []struct {
		c     api.Conf
		taken []api.Entry
		j     api.Job
		e     api.Errno
	}{
		{cluster, nil, of(1, "*"), api.OK}, {cluster, []api.Entry{entry(1, "*")}, of(2, "*"), api.ErrFull}, {cluster, []api.Entry{entry(1, "*")}, of(1, "*"), api.ErrThere},
		{cluster, nil, of(0, "*"), api.ErrArg}, {cluster, nil, of(1), api.ErrEmpty}, {cluster, []api.Entry{entry(1, "*")}, of(1, "gpu"), api.ErrWorker}, {cluster, nil, of(1, "*", "("), api.ErrForm},
		{cluster, nil, of(1, make([]string, 17)...), api.ErrLong}, {cluster, many, of(1, "*"), api.ErrFull}, {cluster, many, of(10, "*"), api.ErrThere}, {cluster, many[:39], of(1, "*"), api.OK},
		{cluster, append(many, api.Entry{ID: 99}), of(1, "*"), api.ErrFull}, {exact, []api.Entry{entry(1, "*")}, of(2, "*"), api.OK}, {tight, []api.Entry{entry(1, "*")}, of(2, "*"), api.ErrFull},
		{exact, []api.Entry{entry(1, "*")}, of(300, "*"), api.ErrFull},
	} {
		if e := Answer(c.c, c.taken, c.j); e != c.e {
			t.Error(i, e)
		}
	}
}

func TestSpace(t *testing.T) {
	taken := []api.Entry{entry(1, "*", "gpu"), entry(300, "*"), entry(0, "*"), {ID: 5}}
	want := rec.Most(1, 0, []string{"*", "gpu"}) + rec.Most(300, 0, []string{"*"})
	if Kept(taken) != want || Kept(nil) != 0 {
		t.Error(Kept(taken))
	}
	for room, free := range map[int]int{want + 7: 7, want: 0, want - 1: 0, 0: 0, -5: 0, math.MinInt: 0, math.MaxInt: math.MaxInt - want} {
		if got := Free(api.Conf{Room: room}, taken); got != free {
			t.Error(room, got)
		}
	}
}

func TestStates(t *testing.T) {
	e := api.Entry{Needs: make([]string, 4), Bound: []int{0, 5, 5, 1, 1}, Done: []bool{false, false, true, false}}
	if got := States(e); !slices.Equal(got, []int{0, 1, 2, 1}) {
		t.Error(got)
	}
	e.Done = e.Done[:2]
	if got := States(e); !slices.Equal(got, []int{0, 1}) || len(States(api.Entry{})) != 0 {
		t.Error(got)
	}
}

func TestFits(t *testing.T) {
	make := func(id int, bound []int, done []bool) []api.Entry {
		return []api.Entry{{ID: id, Needs: []string{"a", "b"}, Bound: bound, Done: done}}
	}
	no, yes := []bool{false, false}, []bool{true, false}
	state := make(5, []int{3, 0}, no)
	for i, c := range []struct {
		log, state []api.Entry
		want       bool
	}{
		{nil, nil, true}, {state, state, true}, {nil, state, false}, {state, nil, false}, {make(6, []int{3, 0}, no), state, false}, {append(state, state...), state, false},
		{make(5, []int{3, 4}, no), state, true}, {make(5, []int{0, 4}, no), state, false}, {make(5, []int{4, 0}, no), state, false}, {make(5, []int{3, 0}, yes), state, false},
		{make(5, []int{3, 0}, yes), make(5, []int{3, 0}, yes), true}, {make(5, []int{3, 0}, no), make(5, []int{3, 0}, yes), true},
		{[]api.Entry{{ID: 5, Needs: []string{"a", "c"}, Bound: []int{3, 0}, Done: no}}, state, false}, {[]api.Entry{{ID: 5, Sched: 2, Epoch: 7, Needs: []string{"a", "b"}, Bound: []int{3, 0}, Done: no}}, state, true},
		{make(5, nil, no), state, false}, {make(5, []int{3, 0}, no[:1]), state, true}, {make(5, []int{3, 9}, yes), make(5, []int{3}, yes[:1]), true}, {make(5, []int{3, 9}, yes), make(5, nil, yes), false},
		{make(5, []int{3, 9}, no), make(5, nil, no), true},
	} {
		if Fits(c.log, c.state) != c.want {
			t.Error(i)
		}
	}
	a, b := entry(1, "*"), entry(2, "*")
	if Fits([]api.Entry{a, b}, []api.Entry{b, a}) || !Fits([]api.Entry{a, b}, []api.Entry{a, b}) {
		t.Error("order")
	}
}

func TestAnswerIsPossible(t *testing.T) {
	r := rand.New(rand.NewSource(14))
	texts := []string{"*", "gpu", "!gpu", "(", "tpu", "* | gpu"}
	for range 50 {
		l, _ := ledger.Open(disk.New(1000), 1000)
		c := cluster
		c.Room = 1000
		var jobs []api.Job
		var events []api.Event
		for range 25 {
			j := of(r.Intn(12), texts[r.Intn(6)], texts[r.Intn(6)])
			want := Answer(c, l.Book(), j)
			state, _ := event.Run(c, jobs, events...)
			_, ok := event.Step(c, append([]api.Job{j}, jobs...), state, api.Event{Kind: api.Accepted, Job: j.ID})
			if ok != (want == api.OK || want == api.ErrFull) {
				t.Fatal(j, want, ok)
			}
			if want != api.OK {
				continue
			}
			if e := l.Put(api.Rec{Kind: api.Accept, Job: j.ID, Needs: j.Needs}); e != api.OK {
				t.Fatal(e)
			}
			jobs = append(jobs, j)
			events = append(events, api.Event{Kind: api.Accepted, Job: j.ID})
			state, _ = event.Run(c, jobs, events...)
			if !Fits(l.Book(), state) || !Fits(l.Book(), l.Book()) || !book.Same(l.Book(), state) || Kept(l.Book()) != l.Kept() {
				t.Fatal(state)
			}
		}
	}
}
