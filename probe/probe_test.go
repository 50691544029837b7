package probe

import (
	"math"
	"slices"
	"testing"

	"siskin/api"
	"siskin/draw"
	"siskin/flock"
)

var cluster = api.Conf{Names: []string{"gpu"}, Workers: []api.Worker{{Attrs: 1}, {}, {Attrs: 1}, {}, {}}}

func entry(bound []int, needs ...string) api.Entry {
	return api.Entry{ID: 5, Sched: 1, Epoch: 3, Needs: needs, Bound: bound, Done: make([]bool, len(needs))}
}

func TestWorkers(t *testing.T) {
	for i, c := range []struct {
		e    api.Entry
		want uint64
	}{
		{entry([]int{0}, "*"), 31}, {entry([]int{0}, "gpu"), 5}, {entry([]int{0}, "!gpu"), 26}, {entry([]int{0, 0}, "gpu", "!gpu"), 31}, {entry([]int{1, 0}, "*", "gpu"), 5},
		{entry([]int{1, 2}, "*", "gpu"), 0}, {entry(nil, "*"), 0}, {entry([]int{0, 0}, "gpu"), 5}, {entry([]int{0, 0}, "gpu", "bad |"), 5}, {api.Entry{}, 0},
	} {
		if got := Workers(cluster, c.e); got != c.want {
			t.Error(i, got)
		}
	}
}

func TestRound(t *testing.T) {
	for i, c := range []struct {
		e    api.Entry
		tape []uint64
		want []int
		left int
	}{
		{entry([]int{0}, "*"), []uint64{7, 3, 9}, []int{2, 4}, 1}, {entry([]int{0, 0}, "*", "gpu"), nil, []int{0, 1, 2, 3}, 0}, {entry([]int{0}, "gpu"), nil, []int{0, 2}, 0},
		{entry([]int{0, 0, 0}, "*", "*", "*"), []uint64{4, 3, 2, 1, 0, 9}, []int{4, 3, 2, 1, 0}, 1}, {entry([]int{1}, "*"), []uint64{1}, nil, 1}, {entry([]int{0, 0}, "gpu", "gpu"), []uint64{1, 1, 1}, []int{2, 0}, 1},
	} {
		tape := draw.New(c.tape...)
		got := Round(tape, cluster, c.e)
		if !slices.Equal(got, c.want) || len(tape.Left()) != c.left {
			t.Error(i, got, tape.Left())
		}
		if s := flock.Of(got...); s&^Workers(cluster, c.e) != 0 || flock.Count(s) != len(got) {
			t.Error(i, "distinct workers of the job")
		}
	}
	if got := Round(nil, cluster, entry([]int{0}, "*")); !slices.Equal(got, []int{0, 1}) {
		t.Error("nil tape", got)
	}
	three := cluster
	three.Workers = three.Workers[:3]
	if got := Round(draw.New(1, 1), three, entry([]int{0}, "*")); len(got) != 2 {
		t.Error("example", got)
	}
}

func TestTold(t *testing.T) {
	m := api.Msg{Kind: api.Probe, Job: 5, Epoch: 3}
	got := Told(entry([]int{0}, "*"), 2, -1, 63, 64, 0, 2, math.MaxInt, math.MinInt)
	if !slices.Equal(got, []api.Out{{To: 10, Msg: m}, {To: 71, Msg: m}, {To: 8, Msg: m}, {To: 10, Msg: m}}) || len(Told(api.Entry{})) != 0 {
		t.Error(got)
	}
}
