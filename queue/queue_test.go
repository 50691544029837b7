package queue

import (
	"math"
	"math/rand"
	"testing"

	"siskin/api"
)

var l = []Place{{5, 0}, {7, 1}, {5, 2}}

func TestPush(t *testing.T) {
	for i, c := range []struct {
		l     []Place
		limit int
		p     Place
		want  []Place
		e     api.Errno
	}{
		{nil, 1, Place{5, 0}, []Place{{5, 0}}, api.OK}, {l, 9, Place{5, 9}, l, api.ErrThere}, {l, 3, Place{6, 0}, l, api.ErrFull}, {l, 2, Place{6, 0}, l, api.ErrFull}, {l, 0, Place{7, 0}, l, api.ErrThere},
		{l, 4, Place{6, 3}, []Place{{5, 0}, {7, 1}, {5, 2}, {6, 3}}, api.OK}, {nil, 0, Place{5, 0}, nil, api.ErrFull}, {nil, math.MinInt, Place{5, 0}, nil, api.ErrFull}, {nil, 1, Place{-1, -1}, []Place{{-1, -1}}, api.OK},
	} {
		if got, e := Push(c.l, c.limit, c.p); !Same(got, c.want) || e != c.e {
			t.Error(i, got, e)
		}
	}
}

func TestPop(t *testing.T) {
	if p, rest, ok := Pop(l); p != l[0] || !Same(rest, l[1:]) || !ok {
		t.Error(p, rest)
	}
	if p, rest, ok := Pop(nil); p != (Place{}) || len(rest) != 0 || ok {
		t.Error(p, rest)
	}
}

func TestDropMoveHas(t *testing.T) {
	if got, ok := Drop(l, 5); !ok || !Same(got, []Place{{7, 1}}) {
		t.Error(got)
	}
	if got, ok := Drop(l, 6); ok || !Same(got, l) {
		t.Error(got)
	}
	if got := Move(l, 5, 4); !Same(got, []Place{{5, 4}, {7, 1}, {5, 4}}) || !Same(Move(l, 6, 4), l) {
		t.Error(got)
	}
	if !Has(l, 5) || !Has(l, 7) || Has(l, 6) || Has(nil, 0) {
		t.Error("has")
	}
	if !Same(nil, []Place{}) || Same(l, l[:2]) || Same([]Place{{1, 2}}, []Place{{1, 3}}) || Same([]Place{{1, 2}}, []Place{{2, 2}}) {
		t.Error("same")
	}
}

func TestMemory(t *testing.T) {
	b := []Place{{1, 1}, {2, 2}, {3, 3}, {4, 4}}
	q := b[:3]
	pushed, _ := Push(q, 9, Place{9, 9})
	there, _ := Push(q, 9, Place{1, 1})
	full, _ := Push(q, 3, Place{9, 9})
	_, rest, _ := Pop(q)
	dropped, _ := Drop(q, 1)
	same, _ := Drop(q, 9)
	for i, x := range [][]Place{pushed, there, full, rest, dropped, same, Move(q, 1, 7), Move(q, 9, 7)} {
		for k := range x {
			x[k] = Place{}
		}
		if !Same(b, []Place{{1, 1}, {2, 2}, {3, 3}, {4, 4}}) {
			t.Fatal(i)
		}
	}
}

func TestOrder(t *testing.T) {
	r := rand.New(rand.NewSource(8))
	var q, model []Place
	for range 5000 {
		switch job := r.Intn(6); r.Intn(4) {
		case 0, 1:
			var e api.Errno
			q, e = Push(q, 3, Place{job, 0})
			if e == api.OK {
				model = append(model, Place{job, 0})
			}
		case 2:
			p, rest, ok := Pop(q)
			if ok != (len(model) > 0) || ok && p != model[0] {
				t.Fatal(p, model)
			}
			if ok {
				model = model[1:]
			}
			q = rest
		case 3:
			q, _ = Drop(q, job)
			model, _ = Drop(model, job)
		}
		seen := map[int]int{}
		for _, p := range q {
			seen[p.Job]++
		}
		if len(q) > 3 || len(seen) != len(q) || !Same(q, model) {
			t.Fatal(q, model)
		}
	}
}
