package round

import (
	"math"
	"slices"
	"testing"
)

func some() Round { return Round{3, 0b10110, []bool{false, true, false}} }

func TestNew(t *testing.T) {
	for tasks, n := range map[int]int{-1: 0, math.MinInt: 0, 0: 0, 3: 3, 16: 16, 17: 16, math.MaxInt: 16} {
		if r := New(tasks); !Same(r, Round{1, 0, make([]bool, n)}) {
			t.Error(tasks, r)
		}
	}
}

func TestAsked(t *testing.T) {
	r := Probed(some(), 0, 63, 64, -1, 4)
	if !Same(r, Round{3, 1<<63 | 0b10111, some().Had}) || !Same(Probed(some()), some()) {
		t.Error(r)
	}
	if r := Full(some(), 2); !Same(r, Round{3, 0b10010, some().Had}) || !Same(Full(some(), 0), some()) || !Same(Full(some(), 64), some()) || !Same(Full(some(), -1), some()) {
		t.Error(r)
	}
	if r, l := Over(some(), 2); !Same(r, Round{3, 0, some().Had}) || !slices.Equal(l, []int{1, 4}) {
		t.Error(r, l)
	}
	if r, l := Over(some(), -1); r.Asked != 0 || !slices.Equal(l, []int{1, 2, 4}) {
		t.Error(r, l)
	}
	if _, l := Over(New(1), 0); len(l) != 0 {
		t.Error(l)
	}
}

func TestCame(t *testing.T) {
	if r := Came(some(), 2); !slices.Equal(r.Had, []bool{false, true, true}) || r.Left != 3 || r.Asked != some().Asked {
		t.Error(r)
	}
	if r := Came(some(), 0); !slices.Equal(r.Had, []bool{true, true, false}) {
		t.Error(r)
	}
	for _, task := range []int{1, 3, -1, math.MinInt, math.MaxInt} {
		if !Same(Came(some(), task), some()) {
			t.Error(task)
		}
	}
}

func TestTick(t *testing.T) {
	for i, c := range []struct {
		left, again, want int
		due               bool
	}{{3, 9, 2, false}, {2, 9, 1, false}, {1, 9, 9, true}, {0, 9, 9, true}, {-5, 2, 2, true}, {math.MinInt, 2, 2, true}, {1, -3, -3, true}, {math.MaxInt, 2, math.MaxInt - 1, false}} {
		r := some()
		r.Left = c.left
		got, due := Tick(r, c.again)
		r.Left = c.want
		if !Same(got, r) || due != c.due {
			t.Error(i, got, due)
		}
	}
	r := New(2)
	var due []int
	for tick := 1; tick < 9; tick++ {
		var now bool
		if r, now = Tick(r, 3); now {
			due = append(due, tick)
		}
	}
	if !slices.Equal(due, []int{1, 4, 7}) {
		t.Error(due)
	}
}

func TestSameAndMemory(t *testing.T) {
	if !Same(Round{}, Round{Had: []bool{}}) || Same(some(), Round{2, 0b10110, some().Had}) || Same(some(), Round{3, 1, some().Had}) || Same(some(), Round{3, 0b10110, nil}) {
		t.Error("same")
	}
	r := some()
	over, _ := Over(r, 1)
	ticked, _ := Tick(r, 1)
	for i, x := range []Round{Probed(r, 1), Full(r, 1), Came(r, 2), Came(r, 9), over, ticked} {
		x.Had[0] = true
		if !Same(r, some()) {
			t.Fatal(i)
		}
	}
}
