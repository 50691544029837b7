package admit

import (
	"math/rand"
	"testing"

	"siskin/api"
	"siskin/flock"
	"siskin/need"
)

var yes = []api.Node{{Op: api.Yes}}

func at(k int) []api.Node { return []api.Node{{Op: api.Attr, N: k}} }

func join(op int, l ...[]api.Node) []api.Node { return need.Join(op, l...) }

func random(r *rand.Rand, d, attrs int) []api.Node {
	switch k := r.Intn(6); {
	case k == 0 && d > 0:
		return yes
	case k == 1 || d == 1:
		return at(r.Intn(attrs))
	case k == 2:
		return join(api.Not, random(r, d-1, attrs))
	case k == 3:
		return join(api.And, random(r, d-1, attrs), random(r, d-1, attrs))
	}
	return join(api.Or, random(r, d-1, attrs), random(r, d-1, attrs))
}

func TestWorkers(t *testing.T) {
	l := []api.Worker{{Attrs: 1}, {Attrs: 3}, {Attrs: 2}, {Attrs: 0}}
	for i, c := range []struct {
		l    []api.Node
		want uint64
	}{
		{at(0), 3}, {at(1), 6}, {join(api.And, at(0), at(1)), 2}, {join(api.Or, at(0), at(1)), 7}, {join(api.Not, at(0)), 12},
		{yes, 15}, {join(api.Not, yes), 0}, {nil, 0}, {[]api.Node{{Op: api.Not}}, 0}, {at(16), 0}, {at(5), 0},
	} {
		if got := Workers(c.l, l); got != c.want {
			t.Error(i, got)
		}
	}
	if Workers(yes, nil) != 0 || Workers(yes, make([]api.Worker, 64)) != ^uint64(0) || Workers(yes, make([]api.Worker, 70)) != ^uint64(0) {
		t.Error("sizes")
	}
	long := make([]api.Worker, 70)
	long[63].Attrs, long[64].Attrs = 1, 1
	if Workers(at(0), long) != 1<<63 {
		t.Error("only the first 64")
	}
}

func TestWorkersSay(t *testing.T) {
	r := rand.New(rand.NewSource(1))
	for range 500 {
		l := random(r, 4, 16)
		var workers []api.Worker
		for range r.Intn(70) {
			workers = append(workers, api.Worker{Attrs: r.Uint64()})
		}
		var want uint64
		for i, w := range workers {
			if need.Says(l, w.Attrs) {
				want = flock.With(want, i)
			}
		}
		if Workers(l, workers) != want {
			t.Fatal(l)
		}
	}
}

func TestAny(t *testing.T) {
	l := []api.Worker{{Attrs: 1}, {Attrs: 3}, {Attrs: 4}, {Attrs: 0}}
	if Any(nil, l) != 0 || Any([][]api.Node{at(1), nil, at(2)}, l) != 6 || Any([][]api.Node{yes, at(2)}, l) != 15 {
		t.Error("any")
	}
}

func TestRow(t *testing.T) {
	if Row(at(3), []int{3}) != 0xaaaaaaaaaaaaaaaa || Row(yes, nil) != ^uint64(0) || Row(join(api.Not, yes), nil) != 0 {
		t.Error("single")
	}
	if Row(at(3), nil) != 0 || Row(at(3), []int{1, 2}) != 0 || Row(join(api.Not, at(3)), []int{1}) != ^uint64(0) {
		t.Error("an attribute that is not in the list")
	}
	if Row(yes, []int{0, 1, 2, 3, 4, 5, 6}) != 0 || Row(nil, []int{1}) != 0 || Row([]api.Node{{Op: api.And}}, []int{1}) != 0 {
		t.Error("none")
	}
	if Row(at(3), []int{3, 3}) != 0xaaaaaaaaaaaaaaaa || Row(at(3), []int{-1, 99, 3}) != 0xf0f0f0f0f0f0f0f0 {
		t.Error("odd lists")
	}
	attrs := []int{9, 2, 15, 0, 7, 4}
	r := rand.New(rand.NewSource(2))
	for range 300 {
		l := random(r, 4, 16)
		row := Row(l, attrs)
		for i := range 64 {
			var set uint64
			for k, a := range attrs {
				if i>>k&1 == 1 {
					set = flock.With(set, a)
				}
			}
			if need.Says(l, set) != (row>>i&1 == 1) {
				t.Fatal(l, i)
			}
		}
	}
}

func TestImplies(t *testing.T) {
	gpu, ssd := at(0), at(1)
	all := at(0)
	for k := 1; k < 7; k++ {
		all = join(api.Or, all, at(k))
	}
	six := all[:len(all)-2]
	for i, c := range []struct {
		a, b []api.Node
		want bool
		e    api.Errno
	}{
		{join(api.And, gpu, ssd), gpu, true, api.OK}, {gpu, join(api.And, gpu, ssd), false, api.OK}, {gpu, gpu, true, api.OK},
		{gpu, join(api.Or, ssd, gpu), true, api.OK}, {join(api.Not, yes), ssd, true, api.OK}, {yes, ssd, false, api.OK}, {ssd, yes, true, api.OK},
		{join(api.Not, join(api.Or, gpu, ssd)), join(api.Not, gpu), true, api.OK},
		{nil, gpu, false, api.ErrArg}, {gpu, nil, false, api.ErrArg}, {all, nil, false, api.ErrArg}, {all, yes, false, api.ErrLong},
		{six, at(6), false, api.ErrLong}, {six, at(5), false, api.OK}, {at(5), six, true, api.OK}, {at(6), at(6), true, api.OK},
		{make([]api.Node, 40), gpu, false, api.ErrArg},
	} {
		if got, e := Implies(c.a, c.b); got != c.want || e != c.e {
			t.Error(i, got, e)
		}
	}
}

func TestImpliesAdmits(t *testing.T) {
	r := rand.New(rand.NewSource(3))
	for range 400 {
		a, b := random(r, 3, 5), random(r, 3, 5)
		var workers []api.Worker
		for s := range uint64(32) {
			workers = append(workers, api.Worker{Attrs: s})
		}
		got, e := Implies(a, b)
		if want := Workers(a, workers)&^Workers(b, workers) == 0; e != api.OK || got != want {
			t.Fatal(a, b)
		}
		if self, _ := Implies(a, a); !self {
			t.Fatal(a)
		}
	}
}
