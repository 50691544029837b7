package pace

import (
	"math"
	"testing"
)

var invalid = []Pace{{}, {0, 1}, {3, 1}, {16, 1}, {1, 2}, {8, 9}, {1, -1}, {-1, 0}, {-8, -8}, {math.MinInt, 0}, {math.MaxInt, 1}, {4, math.MinInt}}

func TestCheck(t *testing.T) {
	for _, w := range []int{1, 2, 4, 8} {
		for left := range w + 1 {
			if !Check(Pace{w, left}) {
				t.Error(w, left)
			}
		}
		if Check(Pace{w, w + 1}) || Check(Pace{w, -1}) {
			t.Error(w)
		}
	}
	for _, p := range invalid {
		if Check(p) {
			t.Error(p)
		}
	}
}

func TestStates(t *testing.T) {
	for _, p := range append([]Pace{{1, 0}, {8, 3}, {4, 4}}, invalid...) {
		if Start(p) != (Pace{1, 1}) || Stop(p) != (Pace{1, 0}) {
			t.Error(p)
		}
	}
	if New() != (Pace{1, 0}) {
		t.Error(New())
	}
}

func TestTick(t *testing.T) {
	for _, c := range []struct {
		p, want Pace
		due     bool
	}{
		{Pace{1, 0}, Pace{1, 0}, false}, {Pace{8, 0}, Pace{8, 0}, false}, {Pace{1, 1}, Pace{2, 2}, true}, {Pace{2, 2}, Pace{2, 1}, false},
		{Pace{2, 1}, Pace{4, 4}, true}, {Pace{4, 1}, Pace{8, 8}, true}, {Pace{8, 1}, Pace{8, 8}, true}, {Pace{8, 8}, Pace{8, 7}, false},
	} {
		if got, due := Tick(c.p); got != c.want || due != c.due {
			t.Error(c.p, got, due)
		}
	}
	for _, p := range invalid {
		if got, due := Tick(p); got != New() || due {
			t.Error(p, got, due)
		}
	}
}

func TestWithin(t *testing.T) {
	for n, want := range map[int]int{-1: 0, math.MinInt: 0, 0: 0, 1: 1, 2: 3, 3: 7, 4: 15, 5: 23, 6: 31, 1 << 20: 15 + 8*(1<<20-4), 1<<20 + 1: 15 + 8*(1<<20-4), math.MaxInt: 15 + 8*(1<<20-4)} {
		if got := Within(n); got != want {
			t.Error(n, got)
		}
	}
}

func TestRunning(t *testing.T) {
	p := Start(New())
	n := 0
	for tick := 1; tick <= 100; tick++ {
		var due bool
		p, due = Tick(p)
		if !Check(p) {
			t.Fatal(tick, p)
		}
		if due {
			n++
			if tick != Within(n) {
				t.Error(tick, n)
			}
		}
	}
	if n != 14 {
		t.Error(n)
	}
}
