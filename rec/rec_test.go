package rec

import (
	"math"
	"strings"
	"testing"

	"siskin/api"
	"siskin/frame"
)

var valid = []api.Rec{
	{Kind: api.Accept, Job: 5, Needs: []string{""}},
	{Kind: api.Accept, Job: api.MaxNum, Sched: 7, Needs: strings.Split(strings.Repeat(strings.Repeat("n", 200)+",", 15)+"*", ",")},
	{Kind: api.Bind, Job: 1, Epoch: 1},
	{Kind: api.Bind, Job: api.MaxNum, Task: 15, Worker: 63, Epoch: 9},
	{Kind: api.Finish, Job: 5, Task: 2},
	{Kind: api.Own, Job: 300, Sched: 7, Epoch: 9},
}

func TestCheck(t *testing.T) {
	for i, x := range valid {
		if !Check(x) {
			t.Error(i)
		}
		for _, job := range []int{0, -1, api.MaxNum + 1, math.MinInt} {
			y := x
			y.Job = job
			if Check(y) {
				t.Error(i, job)
			}
		}
	}
	for i, x := range []api.Rec{
		{}, {Kind: 5, Job: 1}, {Kind: -1, Job: 1}, {Kind: api.Accept, Job: 1}, {Kind: api.Accept, Job: 1, Needs: make([]string, 17)},
		{Kind: api.Accept, Job: 1, Needs: []string{strings.Repeat("n", 201)}}, {Kind: api.Accept, Job: 1, Sched: 8, Needs: []string{"*"}},
		{Kind: api.Accept, Job: 1, Sched: -1, Needs: []string{"*"}}, {Kind: api.Accept, Job: 1, Epoch: 1, Needs: []string{"*"}},
		{Kind: api.Accept, Job: 1, Task: 1, Needs: []string{"*"}}, {Kind: api.Accept, Job: 1, Worker: 1, Needs: []string{"*"}},
		{Kind: api.Bind, Job: 1}, {Kind: api.Bind, Job: 1, Epoch: 10}, {Kind: api.Bind, Job: 1, Task: 16, Epoch: 1}, {Kind: api.Bind, Job: 1, Task: -1, Epoch: 1},
		{Kind: api.Bind, Job: 1, Worker: 64, Epoch: 1}, {Kind: api.Bind, Job: 1, Worker: -1, Epoch: 1}, {Kind: api.Bind, Job: 1, Sched: 1, Epoch: 1},
		{Kind: api.Bind, Job: 1, Epoch: 1, Needs: []string{"*"}}, {Kind: api.Finish, Job: 1, Task: 16}, {Kind: api.Finish, Job: 1, Worker: 1},
		{Kind: api.Finish, Job: 1, Sched: 1}, {Kind: api.Finish, Job: 1, Epoch: 1}, {Kind: api.Finish, Job: 1, Needs: []string{""}},
		{Kind: api.Own, Job: 1, Sched: 1}, {Kind: api.Own, Job: 1, Sched: 8, Epoch: 2}, {Kind: api.Own, Job: 1, Epoch: 10}, {Kind: api.Own, Job: 1, Task: 1, Epoch: 2},
		{Kind: api.Own, Job: 1, Worker: 1, Epoch: 2}, {Kind: api.Own, Job: 1, Epoch: 2, Needs: []string{"*"}},
	} {
		if Check(x) || Bytes(x) != nil || Size(x) != 0 {
			t.Error(i, x)
		}
	}
}

func TestBytes(t *testing.T) {
	for i, c := range []struct {
		x    api.Rec
		want string
	}{
		{valid[0], "\x01\x05\x00\x01\x00"}, {valid[4], "\x03\x05\x02"}, {valid[5], "\x04\xf9\x01\x2c\x07\x09"},
		{api.Rec{Kind: api.Bind, Job: 5, Task: 2, Worker: 6, Epoch: 3}, "\x02\x05\x02\x06\x03"},
		{api.Rec{Kind: api.Accept, Job: 5, Sched: 3, Needs: []string{"a", "bc"}}, "\x01\x05\x03\x02\x01a\x02bc"},
	} {
		if got := string(Bytes(c.x)); got != c.want {
			t.Errorf("%d: %q", i, got)
		}
	}
	if Size(valid[4]) != 8 {
		t.Error(Size(valid[4]))
	}
}

func TestRoundTrip(t *testing.T) {
	for i, x := range valid {
		b := Bytes(x)
		if got, e := Parse(b); !Same(got, x) || e != api.OK {
			t.Error(i, got, e)
		}
		if Size(x) != len(frame.Put(nil, string(b))) {
			t.Error(i, "size")
		}
		for k := range b {
			if got, e := Parse(b[:k]); e != api.ErrShort || !Same(got, api.Rec{}) {
				t.Error(i, k, e)
			}
		}
		if _, e := Parse(append(b, 0)); e != api.ErrForm {
			t.Error(i, e)
		}
	}
}

func TestParseErrors(t *testing.T) {
	for i, c := range []struct {
		b string
		e api.Errno
	}{
		{"", api.ErrShort}, {"\x00", api.ErrForm}, {"\x00\x01", api.ErrForm}, {"\x05", api.ErrLong}, {"\xff", api.ErrForm}, {"\x03", api.ErrShort}, {"\x03\x00\x63", api.ErrForm},
		{"\x03\x01\x10", api.ErrLong}, {"\x02\x01\x00\x40\x00", api.ErrLong}, {"\x02\x01\x00\x3f\x00", api.ErrForm}, {"\x02\x01\x00\x3f\x0a", api.ErrLong},
		{"\x01\x01\x08", api.ErrLong}, {"\x01\x01\x07\x00", api.ErrForm}, {"\x01\x01\x07\x11", api.ErrLong}, {"\x01\x01\x07\x01\xc9", api.ErrLong},
		{"\x04\x01\x08\x00", api.ErrLong}, {"\x04\x01\x07\x00", api.ErrForm}, {"\x04\x01\x07\x0a", api.ErrLong}, {"\x04\x01\x07\x02\x00", api.ErrForm},
	} {
		if got, e := Parse([]byte(c.b)); e != c.e || !Same(got, api.Rec{}) {
			t.Error(i, got, e)
		}
	}
}

func TestSame(t *testing.T) {
	a := api.Rec{Kind: 1, Job: 2, Task: 3, Worker: 4, Sched: 5, Epoch: 6, Needs: []string{"x"}}
	if !Same(a, a) || !Same(api.Rec{}, api.Rec{Needs: []string{}}) {
		t.Error("equal ones")
	}
	for i, change := range []func(x *api.Rec){func(x *api.Rec) { x.Kind++ }, func(x *api.Rec) { x.Job++ }, func(x *api.Rec) { x.Task++ }, func(x *api.Rec) { x.Worker++ },
		func(x *api.Rec) { x.Sched++ }, func(x *api.Rec) { x.Epoch++ }, func(x *api.Rec) { x.Needs = []string{"y"} }} {
		b := a
		change(&b)
		if Same(a, b) {
			t.Error(i)
		}
	}
}

func TestMost(t *testing.T) {
	needs := []string{"*", "gpu"}
	accept := Size(api.Rec{Kind: api.Accept, Job: 300, Sched: 3, Needs: needs})
	if got := Most(300, 3, needs); got != accept+2*(12+10)+8*11 {
		t.Error(got, accept)
	}
	for i, c := range []struct {
		job, sched int
		needs      []string
	}{{0, 0, needs}, {1, 8, needs}, {1, -1, needs}, {1, 0, nil}, {1, 0, make([]string, 17)}, {1, 0, []string{strings.Repeat("a", 201)}}, {api.MaxNum + 1, 0, needs}} {
		if Most(c.job, c.sched, c.needs) != 0 {
			t.Error(i)
		}
	}
	// What the log of a job can have is no longer than that.
	for _, job := range []int{1, 248, api.MaxNum} {
		sum := Size(api.Rec{Kind: api.Accept, Job: job, Sched: 7, Needs: needs})
		for task := range needs {
			sum += Size(api.Rec{Kind: api.Bind, Job: job, Task: task, Worker: 63, Epoch: 9}) + Size(api.Rec{Kind: api.Finish, Job: job, Task: task})
		}
		for epoch := 2; epoch <= api.MaxEpoch; epoch++ {
			sum += Size(api.Rec{Kind: api.Own, Job: job, Sched: epoch % 8, Epoch: epoch})
		}
		if sum != Most(job, 0, needs) {
			t.Error(job, sum)
		}
	}
}
