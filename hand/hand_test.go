package hand

import (
	"math"
	"slices"
	"testing"

	"siskin/api"
)

var cluster = api.Conf{Names: []string{"gpu"}, Workers: []api.Worker{{Attrs: 1}, {}, {Attrs: 1}, {}}}

func entry(bound []int, done []bool, needs ...string) api.Entry {
	return api.Entry{ID: 5, Epoch: 3, Needs: needs, Bound: bound, Done: done}
}

func TestPending(t *testing.T) {
	e := entry([]int{3, 0, 3, 1, 3, 3}, []bool{false, false, false, false, true, false}, "*", "*", "*", "*", "*", "*")
	for i, c := range []struct {
		worker int
		had    []bool
		want   []int
	}{
		{2, nil, []int{0, 2, 5}}, {2, []bool{true}, []int{2, 5}}, {2, []bool{false, false, true, false, false, true, true}, []int{0}}, {0, nil, []int{3}}, {1, nil, nil}, {-1, nil, nil},
		{math.MaxInt, nil, nil}, {math.MinInt, nil, nil}, {64, nil, nil},
	} {
		if got := Pending(e, c.worker, c.had); !slices.Equal(got, c.want) {
			t.Error(i, got)
		}
	}
	for i, e := range []api.Entry{entry([]int{3, 3}, []bool{false}, "*", "*"), entry([]int{3}, []bool{false, false}, "*", "*"), entry([]int{3, 3}, []bool{false, false}, "*")} {
		if got := Pending(e, 2, nil); !slices.Equal(got, []int{0}) || len(All(e, nil)) != 1 {
			t.Error(i, got)
		}
	}
}

func TestMay(t *testing.T) {
	e := entry([]int{0, 1, 0, 0}, make([]bool, 4), "gpu", "*", "!gpu", "bad |")
	for i, c := range []struct {
		worker, task int
		want         bool
	}{
		{0, 0, true}, {1, 0, false}, {2, 0, true}, {4, 0, false}, {-1, 0, false}, {64, 0, false}, {0, 1, false}, {1, 2, true}, {0, 2, false}, {0, 3, false}, {0, 4, false}, {0, -1, false},
		{0, math.MaxInt, false}, {math.MinInt, 0, false},
	} {
		if got := May(cluster, e, c.worker, c.task); got != c.want {
			t.Error(i, got)
		}
	}
	if May(cluster, entry([]int{0}, nil, "*", "*"), 0, 1) || !May(cluster, entry([]int{0}, nil, "*"), 0, 0) {
		t.Error("lists of different lengths")
	}
}

func TestPick(t *testing.T) {
	e := entry([]int{0, 3, 0}, make([]bool, 3), "*", "*", "gpu")
	for i, c := range []struct {
		e         api.Entry
		worker    int
		had       []bool
		task      int
		fresh, ok bool
	}{
		{e, 2, nil, 1, false, true}, {e, 2, []bool{false, true}, 0, true, true}, {e, 1, nil, 0, true, true}, {entry([]int{1, 3, 0}, make([]bool, 3), "*", "*", "gpu"), 1, nil, -1, false, false},
		{entry([]int{1, 3, 0}, make([]bool, 3), "*", "*", "gpu"), 0, []bool{true}, 2, true, true}, {entry([]int{1}, []bool{true}, "*"), 0, nil, -1, false, false}, {e, 9, nil, -1, false, false},
		{api.Entry{}, 0, nil, -1, false, false}, {e, -1, nil, -1, false, false},
	} {
		if task, fresh, ok := Pick(cluster, c.e, c.worker, c.had); task != c.task || fresh != c.fresh || ok != c.ok {
			t.Error(i, task, fresh, ok)
		}
	}
}

func TestAll(t *testing.T) {
	e := entry([]int{3, 0, 64, 1, 3}, []bool{false, false, false, true, false}, "*", "*", "*", "*", "*")
	assign := func(to, task int) api.Out {
		return api.Out{To: to, Msg: api.Msg{Kind: api.Assign, Job: 5, Task: task, Epoch: 3}}
	}
	if got := All(e, nil); !slices.Equal(got, []api.Out{assign(10, 0), assign(71, 2), assign(10, 4)}) {
		t.Error(got)
	}
	if got := All(e, []bool{true, false, false, false, true}); !slices.Equal(got, []api.Out{assign(71, 2)}) {
		t.Error(got)
	}
	if len(All(api.Entry{}, nil)) != 0 {
		t.Error("none")
	}
}
