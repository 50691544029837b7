package need

import (
	"math/rand"
	"testing"

	"siskin/api"
)

var (
	y = api.Node{Op: api.Yes}
	n = api.Node{Op: api.Not}
	a = api.Node{Op: api.And}
	o = api.Node{Op: api.Or}
)

func at(k int) api.Node { return api.Node{Op: api.Attr, N: k} }

// nots is Yes under k times Not.
func nots(k int) []api.Node {
	l := []api.Node{y}
	for range k {
		l = append(l, n)
	}
	return l
}

// wide is the And of k+1 times Yes, as flat as can be for k of 15.
func wide(k int) []api.Node {
	if k == 0 {
		return []api.Node{y}
	}
	return Join(api.And, wide((k-1)/2), wide(k-1-(k-1)/2))
}

func TestCheck(t *testing.T) {
	for i, c := range []struct {
		l []api.Node
		e api.Errno
	}{
		{nil, api.ErrArg}, {[]api.Node{y}, api.OK}, {[]api.Node{at(0)}, api.OK}, {[]api.Node{at(15)}, api.OK},
		{[]api.Node{at(16)}, api.ErrArg}, {[]api.Node{at(-1)}, api.ErrArg}, {[]api.Node{{Op: api.Yes, N: 1}}, api.ErrArg},
		{[]api.Node{y, {Op: api.Not, N: 2}}, api.ErrArg}, {[]api.Node{y, y, {Op: api.And, N: 2}}, api.ErrArg},
		{[]api.Node{n}, api.ErrArg}, {[]api.Node{y, a}, api.ErrArg}, {[]api.Node{y, y}, api.ErrArg}, {[]api.Node{y, y, a}, api.OK},
		{[]api.Node{y, y, o, n}, api.OK}, {[]api.Node{{}}, api.ErrArg}, {[]api.Node{{}, y}, api.ErrArg}, {[]api.Node{at(16), y}, api.ErrArg}, {[]api.Node{n, y}, api.ErrArg}, {[]api.Node{{Op: api.Yes, N: 1}, y}, api.ErrArg}, {[]api.Node{{Op: 6}}, api.ErrArg}, {[]api.Node{{Op: -1}}, api.ErrArg},
		{nots(7), api.OK}, {nots(8), api.ErrLong}, {append(nots(8), y), api.ErrArg}, {wide(15), api.OK},
		{append(wide(15), n), api.ErrLong}, {make([]api.Node, 32), api.ErrLong}, {make([]api.Node, 31), api.ErrArg},
	} {
		if e := Check(c.l); e != c.e {
			t.Error(i, e)
		}
		if c.e != api.OK && (Depth(c.l) != 0 || Says(c.l, 7) || Asks(c.l) != 0 || len(Parts(c.l)) != 0) {
			t.Error(i, "results of a list that is rejected")
		}
	}
}

func TestDepth(t *testing.T) {
	for i, c := range []struct {
		l []api.Node
		d int
	}{{nots(0), 1}, {nots(7), 8}, {wide(15), 5}, {[]api.Node{y, n, n, y, a}, 4}, {[]api.Node{y, y, n, n, o}, 4}} {
		if d := Depth(c.l); d != c.d {
			t.Error(i, d)
		}
	}
}

func TestSays(t *testing.T) {
	for i, c := range []struct {
		l     []api.Node
		attrs uint64
		want  bool
	}{
		{[]api.Node{y}, 0, true}, {[]api.Node{at(1), n}, 2, false}, {[]api.Node{at(1), n}, 0, true}, {[]api.Node{at(15)}, 1 << 15, true},
		{[]api.Node{at(15)}, 1 << 14, false}, {[]api.Node{at(0), at(1), a}, 3, true}, {[]api.Node{at(0), at(1), a}, 1, false},
		{[]api.Node{at(0), at(1), a}, 2, false}, {[]api.Node{at(0), at(1), o}, 2, true}, {[]api.Node{at(0), at(1), o}, 1, true},
		{[]api.Node{at(0), at(1), o}, 4, false}, {[]api.Node{at(0), at(1), n, a}, 1 | 1<<63, true},
	} {
		if got := Says(c.l, c.attrs); got != c.want {
			t.Error(i, got)
		}
	}
}

func TestAsksAndParts(t *testing.T) {
	left, right := []api.Node{at(3), n}, []api.Node{at(0), at(3), y, a, o}
	l := Join(api.Or, left, right)
	if Asks(l) != 9 || Asks([]api.Node{y}) != 0 {
		t.Error(Asks(l))
	}
	p := Parts(l)
	if len(p) != 2 || !Same(p[0], left) || !Same(p[1], right) {
		t.Error(p)
	}
	p[0][0] = y
	p[1] = append(p[1][:1], y)
	if !Same(l, Join(api.Or, left, right)) {
		t.Error("shares memory")
	}
	if p := Parts(left); len(p) != 1 || !Same(p[0], left[:1]) || len(Parts(left[:1])) != 0 || len(Parts([]api.Node{y})) != 0 {
		t.Error("parts of not and of leaves")
	}
}

func TestJoin(t *testing.T) {
	if !Same(Join(9), []api.Node{{Op: 9}}) || !Same(Join(api.Not, nil, []api.Node{y}), []api.Node{y, n}) {
		t.Error("join")
	}
	b := []api.Node{y, at(1), at(2)}
	Join(api.Not, b[:1])[0] = n
	if b[0] != y || b[1] != at(1) {
		t.Error("argument changed")
	}
}

func TestSame(t *testing.T) {
	if !Same(nil, []api.Node{}) || Same([]api.Node{y}, nil) || Same([]api.Node{at(1)}, []api.Node{at(2)}) || !Same(nots(3), nots(3)) {
		t.Error("same")
	}
}

func random(r *rand.Rand, d int) []api.Node {
	switch k := r.Intn(5); {
	case d == 1 && k < 2 || k == 0:
		return []api.Node{y}
	case d == 1 || k == 1:
		return []api.Node{at(r.Intn(16))}
	case k == 2:
		return Join(api.Not, random(r, d-1))
	case k == 3:
		return Join(api.And, random(r, d-1), random(r, d-1))
	}
	return Join(api.Or, random(r, d-1), random(r, d-1))
}

func TestConsequences(t *testing.T) {
	r := rand.New(rand.NewSource(9))
	for range 3000 {
		l := random(r, 6)
		if Check(l) != api.OK {
			continue
		}
		p := Parts(l)
		if !Same(Join(l[len(l)-1].Op, p...)[:len(l)-1], l[:len(l)-1]) {
			t.Fatal(l)
		}
		attrs := r.Uint64()
		if Says(l, attrs) != Says(l, attrs&Asks(l)) {
			t.Fatal(l, attrs)
		}
	}
}
