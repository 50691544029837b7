package table

import (
	"math/rand"
	"slices"
	"testing"

	"siskin/api"
)

func task(job, k int) api.Task { return api.Task{Job: job, Task: k} }

func some() []Row {
	return []Row{{task(3, 1), Owed}, {task(5, 0), Running}, {task(5, 2), Ended}, {task(7, 0), Thanked}}
}

func TestCheck(t *testing.T) {
	for i, c := range []struct {
		l    []Row
		want bool
	}{
		{nil, true}, {some(), true}, {[]Row{{task(1, 1), 0}}, false}, {[]Row{{task(1, 1), 5}}, false}, {[]Row{{task(1, 1), -1}}, false}, {[]Row{{task(1, 1), 1}, {task(1, 1), 1}}, false},
		{[]Row{{task(1, 1), 1}, {task(1, 0), 1}}, false}, {[]Row{{task(2, 0), 1}, {task(1, 5), 1}}, false}, {[]Row{{task(-2, -3), 1}, {task(-2, 5), 1}, {task(0, -9), 4}}, true},
	} {
		if Check(c.l) != c.want {
			t.Error(i)
		}
	}
}

func TestState(t *testing.T) {
	l := append(some(), Row{task(3, 1), Ended}, Row{task(9, 9), 77})
	if State(l, task(3, 1)) != Owed || State(l, task(5, 2)) != Ended || State(l, task(5, 1)) != 0 || State(l, task(9, 9)) != 77 || State(nil, task(0, 0)) != 0 {
		t.Error("state")
	}
}

func TestSet(t *testing.T) {
	allowed := map[[2]int]bool{{0, 1}: true, {0, 2}: true, {1, 2}: true, {2, 3}: true, {3, 4}: true}
	for from := range 5 {
		for to := -1; to <= 6; to++ {
			var l []Row
			if from > 0 {
				l = []Row{{task(5, 2), from}}
			}
			got, ok := Set(l, task(5, 2), to)
			if ok != allowed[[2]int{from, to}] || ok && !Same(got, []Row{{task(5, 2), to}}) || !ok && !Same(got, l) {
				t.Error(from, to, got)
			}
		}
	}
	for _, x := range []api.Task{task(1, 1), task(3, 2), task(5, 1), task(9, 0)} {
		got, ok := Set(some(), x, Owed)
		if !ok || !Check(got) || len(got) != 5 || State(got, x) != Owed {
			t.Error(x, got)
		}
	}
	bad := []Row{{task(2, 0), 1}, {task(1, 0), 1}}
	if got, ok := Set(bad, task(1, 0), Running); ok || !Same(got, bad) {
		t.Error("no table")
	}
}

func TestOfAndIn(t *testing.T) {
	l := append(some(), Row{task(5, 1), Owed})
	if !Same(Of(l, 5), []Row{{task(5, 0), Running}, {task(5, 2), Ended}, {task(5, 1), Owed}}) || len(Of(l, 4)) != 0 {
		t.Error("of")
	}
	if !slices.Equal(In(l, Owed), []api.Task{task(3, 1), task(5, 1)}) || len(In(l, 9)) != 0 || !slices.Equal(In(l, Thanked), []api.Task{task(7, 0)}) {
		t.Error("in")
	}
	if !Same(nil, []Row{}) || Same(some(), some()[1:]) || Same([]Row{{task(1, 1), 1}}, []Row{{task(1, 1), 2}}) || !Same(some(), some()) {
		t.Error("same")
	}
}

func TestMemory(t *testing.T) {
	l := append(make([]Row, 0, 9), some()...)
	new, _ := Set(l, task(1, 1), Owed)
	last, _ := Set(l, task(9, 1), Owed)
	changed, _ := Set(l, task(3, 1), Running)
	refused, _ := Set(l, task(3, 1), Ended)
	for i, x := range [][]Row{new, last, changed, refused, Of(l, 5)} {
		clear(x)
		if !Same(l, some()) {
			t.Fatal(i)
		}
	}
}

func TestOnce(t *testing.T) {
	r := rand.New(rand.NewSource(10))
	for range 50 {
		var l []Row
		count := map[[3]int]int{}
		for range 300 {
			x, state := task(r.Intn(3), r.Intn(3)), r.Intn(6)
			next, ok := Set(l, x, state)
			if ok {
				count[[3]int{x.Job, x.Task, state}]++
			}
			if !Check(next) || count[[3]int{x.Job, x.Task, Running}] > 1 || count[[3]int{x.Job, x.Task, Ended}] > 1 {
				t.Fatal(next)
			}
			l = next
		}
	}
}
