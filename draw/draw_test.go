package draw

import (
	"math"
	"slices"
	"testing"

	"siskin/flock"
)

func TestTape(t *testing.T) {
	tape := New(7, 3)
	tape.Add(1<<63, 4)
	tape.Add()
	if !slices.Equal(tape.Left(), []uint64{7, 3, 1 << 63, 4}) {
		t.Error(tape.Left())
	}
	for _, want := range []uint64{7, 3, 1 << 63, 4, 0, 0} {
		if got := tape.Next(); got != want {
			t.Error(got, want)
		}
	}
	tape.Add(9)
	if tape.Next() != 9 || len(tape.Left()) != 0 {
		t.Error("added after the end")
	}
}

func TestMemory(t *testing.T) {
	l := []uint64{1, 2, 3, 4}
	tape := New(l[:2]...)
	tape.Add(5)
	l[0] = 9
	left := tape.Left()
	left[1] = 9
	if !slices.Equal(tape.Left(), []uint64{1, 2, 5}) || l[2] != 3 {
		t.Error(tape.Left(), l)
	}
	c := tape.Clone()
	tape.Next()
	c.Add(6)
	tape.Add(7)
	if !slices.Equal(c.Left(), []uint64{1, 2, 5, 6}) || !slices.Equal(tape.Left(), []uint64{2, 5, 7}) {
		t.Error(c.Left(), tape.Left())
	}
}

func TestBelow(t *testing.T) {
	tape := New(7, math.MaxUint64, 5)
	if tape.Below(0) != 0 || tape.Below(-3) != 0 || tape.Below(math.MinInt) != 0 || len(tape.Left()) != 3 {
		t.Error("consumed")
	}
	if tape.Below(4) != 3 || tape.Below(10) != 5 || tape.Below(1) != 0 || len(tape.Left()) != 0 || tape.Below(9) != 0 {
		t.Error("remainders")
	}
	if New(math.MaxUint64).Below(math.MaxInt) != 1 {
		t.Error("of a great number")
	}
}

func TestSome(t *testing.T) {
	for i, c := range []struct {
		tape []uint64
		set  uint64
		k    int
		want []int
		left int
	}{
		{[]uint64{7, 3}, 13, 2, []int{2, 3}, 0}, {[]uint64{7, 3, 1}, 13, 9, []int{2, 3, 0}, 0}, {[]uint64{1}, 13, 0, nil, 1},
		{[]uint64{1}, 13, -1, nil, 1}, {[]uint64{1}, 0, 5, nil, 1}, {nil, 1<<63 | 2, math.MaxInt, []int{1, 63}, 0},
		{[]uint64{5, 6, 7, 8}, ^uint64(0), 2, []int{5, 7}, 2}, {[]uint64{1}, 13, math.MinInt, nil, 1},
	} {
		tape := New(c.tape...)
		if got := tape.Some(c.set, c.k); !slices.Equal(got, c.want) || len(tape.Left()) != c.left {
			t.Error(i, got, tape.Left())
		}
	}
}

func TestEverySelection(t *testing.T) {
	set := flock.Of(3, 5, 9, 63)
	found := map[[3]int]bool{}
	for a := range uint64(4) {
		for b := range uint64(3) {
			for c := range uint64(2) {
				l := New(a, b, c).Some(set, 3)
				if len(l) != 3 || flock.Count(flock.Of(l...)) != 3 || flock.Of(l...)&^set != 0 {
					t.Error(l)
				}
				found[[3]int(l)] = true
			}
		}
	}
	if len(found) != 24 {
		t.Error(len(found))
	}
}

func TestNil(t *testing.T) {
	var tape *Tape
	tape.Add(1)
	if tape.Next() != 0 || tape.Below(5) != 0 || len(tape.Left()) != 0 || tape.Clone() != nil || !slices.Equal(tape.Some(13, 2), []int{0, 2}) {
		t.Error("nil")
	}
}
