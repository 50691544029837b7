package scan

import (
	"slices"
	"testing"

	"siskin/api"
	"siskin/frame"
	"siskin/rec"
)

var log = []api.Rec{
	{Kind: api.Accept, Job: 5, Sched: 1, Needs: []string{"gpu", "*"}},
	{Kind: api.Bind, Job: 5, Task: 1, Worker: 2, Epoch: 1},
	{Kind: api.Own, Job: 5, Sched: 2, Epoch: 2},
	{Kind: api.Finish, Job: 5, Task: 1},
}

func TestTorn(t *testing.T) {
	b := Bytes(log...)
	var ends []int
	for k := range log {
		ends = append(ends, len(Bytes(log[:k+1]...)))
	}
	for i := range len(b) + 1 {
		k, want := 0, 0
		for k < len(ends) && ends[k] <= i {
			want = ends[k]
			k++
		}
		got, good := Records(b[:i])
		if !slices.EqualFunc(got, log[:k], rec.Same) || good != want || Whole(b[:i]) != (i == want) {
			t.Fatal(i, got, good)
		}
		if string(Bytes(got...)) != string(b[:good]) {
			t.Fatal(i)
		}
	}
}

func TestBadFrames(t *testing.T) {
	first := Bytes(log[3])
	if len(first) != 8 {
		t.Error(len(first))
	}
	for i, bad := range []string{"", "\x00", "\x05\x01", "\x03\x05\x02\x00", "x"} {
		b := append(frame.Put(first, bad), Bytes(log...)...)
		if got, good := Records(b); len(got) != 1 || good != 8 || Whole(b) {
			t.Error(i, got, good)
		}
	}
	flipped := Bytes(log...)
	flipped[1] ^= 1
	if got, good := Records(flipped); len(got) != 0 || good != 0 {
		t.Error(got, good)
	}
}

func TestBytes(t *testing.T) {
	if len(Bytes()) != 0 || !Whole(nil) {
		t.Error("nothing")
	}
	if got := Bytes(api.Rec{}, log[3], api.Rec{Kind: api.Bind, Job: 1}); string(got) != string(Bytes(log[3])) {
		t.Errorf("%q", got)
	}
	if string(Bytes(log[3])) != string(frame.Put(nil, "\x03\x05\x01")) {
		t.Error("a frame")
	}
}
