package show

import (
	"math/rand"
	"testing"

	"siskin/api"
	"siskin/need"
	"siskin/read"
)

var table = []string{"arm", "gpu", "ssd"}

func at(k int) []api.Node { return []api.Node{{Op: api.Attr, N: k}} }

func join(op int, l ...[]api.Node) []api.Node { return need.Join(op, l...) }

func TestText(t *testing.T) {
	arm, gpu, ssd := at(0), at(1), at(2)
	and, or, not := api.And, api.Or, api.Not
	for _, c := range []struct {
		l    []api.Node
		want string
	}{
		{[]api.Node{{Op: api.Yes}}, "*"}, {gpu, "gpu"}, {join(not, gpu), "!gpu"}, {join(not, join(not, gpu)), "!!gpu"},
		{join(and, join(or, gpu, ssd), join(not, arm)), "(gpu | ssd) & !arm"},
		{join(not, join(and, gpu, ssd)), "!(gpu & ssd)"}, {join(not, join(or, gpu, ssd)), "!(gpu | ssd)"},
		{join(and, join(and, gpu, ssd), arm), "gpu & ssd & arm"}, {join(and, gpu, join(and, ssd, arm)), "gpu & (ssd & arm)"},
		{join(and, gpu, join(or, ssd, arm)), "gpu & (ssd | arm)"}, {join(and, join(not, gpu), ssd), "!gpu & ssd"},
		{join(or, join(or, gpu, ssd), arm), "gpu | ssd | arm"}, {join(or, gpu, join(or, ssd, arm)), "gpu | (ssd | arm)"},
		{join(or, join(and, gpu, ssd), join(and, arm, gpu)), "gpu & ssd | arm & gpu"}, {join(or, join(not, gpu), join(not, ssd)), "!gpu | !ssd"},
	} {
		if got := Text(table, c.l); got != c.want {
			t.Errorf("%q for %q", got, c.want)
		}
	}
}

func TestNone(t *testing.T) {
	for i, l := range [][]api.Node{nil, {{Op: api.Not}}, at(3), at(16), at(-1), join(api.Or, at(0), at(3)), {{Op: 9}}} {
		if got := Text(table, l); got != "" {
			t.Error(i, got)
		}
	}
	if Text(nil, at(0)) != "" || Text(nil, []api.Node{{Op: api.Yes}}) != "*" || Text([]string{"x y", ""}, at(0)) != "x y" {
		t.Error("tables")
	}
}

func TestLines(t *testing.T) {
	if Lines(table) != "" || Lines(table, at(0), nil, at(2)) != "arm\n\nssd\n" {
		t.Error("lines")
	}
}

func random(r *rand.Rand, d int) []api.Node {
	switch k := r.Intn(5); {
	case d == 1 && k < 2 || k == 0:
		return []api.Node{{Op: api.Yes}}
	case d == 1 || k == 1:
		return at(r.Intn(3))
	case k == 2:
		return join(api.Not, random(r, d-1))
	case k == 3:
		return join(api.And, random(r, d-1), random(r, d-1))
	}
	return join(api.Or, random(r, d-1), random(r, d-1))
}

func TestReadAgain(t *testing.T) {
	r := rand.New(rand.NewSource(3))
	texts := map[string][]api.Node{}
	for range 3000 {
		l := random(r, 5)
		s := Text(table, l)
		if need.Check(l) != api.OK || len(s) > api.MaxText {
			continue
		}
		if got, _, e := read.Need(table, s); e != api.OK || !need.Same(got, l) {
			t.Fatal(s, e)
		}
		if old, ok := texts[s]; ok && !need.Same(old, l) {
			t.Fatal(s)
		}
		texts[s] = l
	}
	if len(texts) < 500 {
		t.Error(len(texts))
	}
}
