package flock

import (
	"math"
	"math/bits"
	"slices"
	"testing"
)

var outside = []int{-1, 64, 65, 128, math.MinInt, math.MaxInt}

var sets = []uint64{0, 1, 5, 1 << 63, ^uint64(0), 0xdeadbeef00c0ffee, 0x8000000000000001}

func TestOf(t *testing.T) {
	if Of() != 0 || Of(0, 2, 64) != 5 || Of(2, 2, 63) != 1<<63|4 || Of(outside...) != 0 {
		t.Error("of")
	}
}

func TestBelow(t *testing.T) {
	for n, want := range map[int]uint64{0: 0, -1: 0, math.MinInt: 0, 1: 1, 3: 7, 63: 1<<63 - 1, 64: ^uint64(0), 65: ^uint64(0), math.MaxInt: ^uint64(0)} {
		if Below(n) != want {
			t.Error(n, Below(n))
		}
	}
}

func TestMembers(t *testing.T) {
	for _, s := range sets {
		for k := range 64 {
			if Has(s, k) != (s>>k&1 == 1) {
				t.Error(s, k)
			}
			if with := With(s, k); with != s|1<<k {
				t.Error(s, k, with)
			}
			if without := Without(s, k); without != s&^(1<<k) {
				t.Error(s, k, without)
			}
		}
		for _, k := range outside {
			if Has(s, k) || With(s, k) != s || Without(s, k) != s {
				t.Error(s, k)
			}
		}
	}
}

func TestOrder(t *testing.T) {
	for _, s := range sets {
		l := List(s)
		if Count(s) != bits.OnesCount64(s) || len(l) != Count(s) || Of(l...) != s || !slices.IsSorted(l) {
			t.Error(s, l)
		}
		if !slices.Equal(slices.Collect(Each(s)), l) {
			t.Error(s)
		}
		if Nth(s, math.MinInt) != -1 || Nth(s, math.MaxInt) != -1 || Nth(s, 64) != -1 {
			t.Error(s)
		}
		for i, k := range l {
			if Nth(s, i) != k || Count(s&Below(k)) != i {
				t.Error(s, i)
			}
		}
		for _, k := range append([]int{len(l)}, outside[:1]...) {
			if Nth(s, k) != -1 {
				t.Error(s, k)
			}
		}
	}
	if Nth(5, 1) != 2 {
		t.Error("example")
	}
}

func TestEachStopsAndRepeats(t *testing.T) {
	seq := Each(7)
	n := 0
	for range seq {
		n++
		break
	}
	for range seq {
		n++
	}
	if n != 4 {
		t.Error(n)
	}
}
