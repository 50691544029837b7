package slots

import (
	"math"
	"math/rand"
	"testing"

	"siskin/api"
	"siskin/queue"
)

type (
	places = []queue.Place
	tasks  = []api.Task
)

func some() Slots {
	return Slots{N: 4, Asked: places{{Job: 5, Sched: 1}, {Job: 6, Sched: 2}}, Owed: tasks{{Job: 7, Task: 1}, {Job: 8}}, Running: tasks{{Job: 9}}}
}

func TestFree(t *testing.T) {
	for i, c := range []struct {
		s    Slots
		want int
	}{
		{Slots{}, 0}, {some(), 1}, {Slots{N: 2, Asked: make(places, 3)}, 0}, {Slots{N: 1, Owed: make(tasks, 3)}, 1}, {Slots{N: -1}, 0},
		{Slots{N: math.MinInt, Running: make(tasks, 1)}, 0}, {Slots{N: math.MaxInt, Running: make(tasks, 1)}, math.MaxInt - 1},
	} {
		if Free(c.s) != c.want {
			t.Error(i, Free(c.s))
		}
	}
}

func TestAskAndNone(t *testing.T) {
	want := some()
	want.Asked = append(want.Asked, queue.Place{Job: 7, Sched: 3})
	s, ok := Ask(some(), queue.Place{Job: 7, Sched: 3})
	if !ok || !Same(s, want) {
		t.Error(s)
	}
	if again, ok := Ask(s, queue.Place{Job: 8}); ok || !Same(again, want) {
		t.Error("no slot is free")
	}
	if again, ok := Ask(some(), queue.Place{Job: 6, Sched: 9}); ok || !Same(again, some()) {
		t.Error("requested already")
	}
	want = some()
	want.Asked = want.Asked[1:]
	if s, ok := None(some(), 5); !ok || !Same(s, want) {
		t.Error(s)
	}
	if s, ok := None(some(), 9); ok || !Same(s, some()) {
		t.Error(s)
	}
	twice := Slots{Asked: places{{Job: 5}, {Job: 6}, {Job: 5}}}
	if s, ok := None(twice, 5); !ok || !Same(s, Slots{Asked: places{{Job: 6}}}) {
		t.Error(s)
	}
}

func TestGive(t *testing.T) {
	want := some()
	want.Running = append(want.Running, api.Task{Job: 3})
	if s, ok := Give(some(), api.Task{Job: 3}); !ok || !Same(s, want) {
		t.Error(s)
	}
	full := some()
	full.N = 3
	want = full
	want.Owed = append(tasks{}, append(full.Owed, api.Task{Job: 3})...)
	if s, ok := Give(full, api.Task{Job: 3}); ok || !Same(s, want) {
		t.Error(s)
	}
	want = full
	want.Asked = full.Asked[1:]
	want.Running = tasks{{Job: 9}, {Job: 5, Task: 2}}
	if s, ok := Give(full, api.Task{Job: 5, Task: 2}); !ok || !Same(s, want) {
		t.Error("for a requested reservation", s)
	}
}

func TestNextAndEnd(t *testing.T) {
	want := some()
	want.Owed, want.Running = want.Owed[1:], tasks{{Job: 9}, {Job: 7, Task: 1}}
	if s, next, ok := Next(some()); !ok || next != (api.Task{Job: 7, Task: 1}) || !Same(s, want) {
		t.Error(s, next)
	}
	full := some()
	full.N = 3
	if s, next, ok := Next(full); ok || next != (api.Task{}) || !Same(s, full) {
		t.Error(s, next)
	}
	if s, next, ok := Next(Slots{N: 1}); ok || next != (api.Task{}) || !Same(s, Slots{N: 1}) {
		t.Error(s, next)
	}
	run := Slots{N: 1, Running: tasks{{Job: 1}, {Job: 2}, {Job: 1}}}
	if s, ok := End(run, api.Task{Job: 1}); !ok || !Same(s, Slots{N: 1, Running: tasks{{Job: 2}, {Job: 1}}}) {
		t.Error(s)
	}
	if s, ok := End(run, api.Task{Job: 1, Task: 1}); ok || !Same(s, run) {
		t.Error(s)
	}
}

func TestMoveAndSame(t *testing.T) {
	want := some()
	want.Asked[1].Sched = 7
	if s := Move(some(), 6, 7); !Same(s, want) || !Same(Move(some(), 7, 7), some()) {
		t.Error(s)
	}
	if !Same(Slots{}, Slots{Asked: places{}, Owed: tasks{}, Running: tasks{}}) {
		t.Error("empty")
	}
	for i, change := range []func(s *Slots){func(s *Slots) { s.N++ }, func(s *Slots) { s.Asked[0].Sched++ }, func(s *Slots) { s.Owed = nil }, func(s *Slots) { s.Running[0].Task++ }} {
		s := some()
		change(&s)
		if Same(s, some()) {
			t.Error(i)
		}
	}
}

func TestMemory(t *testing.T) {
	s := some()
	asked, _ := Ask(s, queue.Place{Job: 7})
	refused, _ := Ask(s, queue.Place{Job: 6})
	none, _ := None(s, 5)
	nothing, _ := None(s, 99)
	given, _ := Give(s, api.Task{Job: 1})
	next, _, _ := Next(s)
	ended, _ := End(s, api.Task{Job: 9})
	kept, _ := End(s, api.Task{Job: 99})
	for i, x := range []Slots{asked, refused, none, nothing, given, next, ended, kept, Move(s, 5, 9)} {
		clear(x.Asked)
		clear(x.Owed)
		clear(x.Running)
		if !Same(s, some()) {
			t.Fatal(i)
		}
	}
}

func TestExample(t *testing.T) {
	s, _ := Ask(Slots{N: 1}, queue.Place{Job: 5})
	if Free(s) != 0 {
		t.Error(s)
	}
	s, ran := Give(s, api.Task{Job: 5})
	s, owed := Give(s, api.Task{Job: 5, Task: 1})
	if !ran || owed {
		t.Error(s)
	}
	s, _ = End(s, api.Task{Job: 5})
	if s, next, ok := Next(s); !ok || next.Task != 1 || len(s.Owed) != 0 {
		t.Error(s)
	}
}

func TestNeverMore(t *testing.T) {
	r := rand.New(rand.NewSource(9))
	for n := range 5 {
		s := Slots{N: n}
		for range 2000 {
			job, task := r.Intn(5), api.Task{Job: r.Intn(5), Task: r.Intn(3)}
			switch r.Intn(5) {
			case 0:
				s, _ = Ask(s, queue.Place{Job: job})
			case 1:
				s, _ = None(s, job)
			case 2:
				requested := queue.Has(s.Asked, task.Job)
				var ran bool
				if s, ran = Give(s, task); requested && !ran {
					t.Fatal(s)
				}
			case 3:
				s, _, _ = Next(s)
			case 4:
				s, _ = End(s, task)
			}
			if len(s.Asked)+len(s.Running) > n {
				t.Fatal(s)
			}
		}
	}
}
