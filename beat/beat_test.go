package beat

import (
	"math"
	"testing"
)

func some() Ear { return Ear{1, 3, []int{0, 2, 3, 7}} }

func TestNew(t *testing.T) {
	for scheds, n := range map[int]int{-1: 0, math.MinInt: 0, 0: 0, 3: 3, 8: 8, 9: 8, math.MaxInt: 8} {
		if e := New(scheds, -4, 5); !Same(e, Ear{-4, 5, make([]int, n)}) {
			t.Error(scheds, e)
		}
	}
}

func TestTickAndHear(t *testing.T) {
	if e := Tick(some()); !Same(e, Ear{1, 3, []int{1, 3, 3, 7}}) {
		t.Error(e)
	}
	if e := Tick(Ear{0, -2, []int{-5, -2, math.MaxInt}}); !Same(e, Ear{0, -2, []int{-4, -2, math.MaxInt}}) {
		t.Error(e)
	}
	if e := Hear(some(), 3); !Same(e, Ear{1, 3, []int{0, 2, 3, 0}}) || !Same(Hear(some(), 1), Ear{1, 3, []int{0, 0, 3, 7}}) {
		t.Error(e)
	}
	if e := Hear(Ear{1, 3, []int{2, 2}}, 0); !Same(e, Ear{1, 3, []int{0, 2}}) || !Silent(Ear{1, 3, []int{3, 3}}, 0) {
		t.Error(e)
	}
	for _, k := range []int{-1, 4, math.MinInt, math.MaxInt} {
		if !Same(Hear(some(), k), some()) || Silent(some(), k) {
			t.Error(k)
		}
	}
}

func TestSilent(t *testing.T) {
	for k, want := range []bool{false, false, true, true} {
		if Silent(some(), k) != want {
			t.Error(k)
		}
	}
	if Silent(Ear{2, 3, []int{0, 0, 9}}, 2) || !Silent(Ear{0, 0, []int{0, 0}}, 1) {
		t.Error("oneself, and a lease of 0")
	}
}

func TestSameAndMemory(t *testing.T) {
	if !Same(Ear{}, Ear{Ages: []int{}}) || Same(some(), Ear{0, 3, some().Ages}) || Same(some(), Ear{1, 2, some().Ages}) || Same(some(), Ear{1, 3, nil}) {
		t.Error("same")
	}
	e := some()
	for i, x := range []Ear{Tick(e), Hear(e, 1), Hear(e, 9)} {
		clear(x.Ages)
		if !Same(e, some()) {
			t.Error(i)
		}
	}
}

func TestInTime(t *testing.T) {
	for lease := 1; lease < 6; lease++ {
		for every := 1; every < 8; every++ {
			e := New(2, 0, lease)
			for tick := 1; tick < 40; tick++ {
				if tick%every == 0 {
					e = Hear(e, 1)
				}
				if every <= lease && Silent(e, 1) {
					t.Fatal(lease, every, tick)
				}
				e = Tick(e)
			}
		}
		e := Hear(New(2, 0, lease), 1)
		for tick := range lease {
			if Silent(e, 1) {
				t.Fatal(lease, tick)
			}
			e = Tick(e)
		}
		if !Silent(e, 1) {
			t.Fatal(lease)
		}
	}
}
