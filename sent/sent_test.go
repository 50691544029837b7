package sent

import (
	"math"
	"math/rand"
	"slices"
	"testing"

	"siskin/api"
	"siskin/pace"
)

func with(peer, seq, wait, left int, texts ...string) Out {
	return Out{peer, seq, texts, pace.Pace{Wait: wait, Left: left}}
}

func TestPut(t *testing.T) {
	for i, c := range []struct {
		o     Out
		bound int
		text  string
		want  Out
		now   bool
		e     api.Errno
	}{
		{New(), 2, "a", with(1, 1, 1, 1, "a"), true, api.OK}, {with(3, 4, 8, 5, "a"), 2, "b", with(3, 4, 8, 5, "a", "b"), false, api.OK},
		{with(3, 4, 8, 5, "a", "b"), 2, "b", with(3, 4, 8, 5, "a", "b"), false, api.OK}, {with(3, 4, 8, 5, "a", "b"), 2, "c", with(3, 4, 8, 5, "a", "b"), false, api.ErrFull},
		{with(3, 4, 8, 5, "a", "b"), 1, "a", with(3, 4, 8, 5, "a", "b"), false, api.OK}, {with(3, 4, 8, 5, "a", "b"), 1, "c", with(3, 4, 8, 5, "a", "b"), false, api.ErrFull},
		{with(3, 4, 8, 5, "a", "b"), 1, "", with(3, 4, 8, 5, "a", "b"), false, api.ErrArg}, {with(3, 4, 8, 5, "", "b"), 9, "", with(3, 4, 8, 5, "", "b"), false, api.ErrArg},
		{New(), 0, "a", New(), false, api.ErrFull}, {New(), math.MinInt, "a", New(), false, api.ErrFull}, {with(1, 7, 4, 2), 1, "a", with(1, 7, 1, 1, "a"), true, api.OK},
		{with(1, 7, 3, 9), 1, "a", with(1, 7, 1, 1, "a"), true, api.OK},
	} {
		if got, now, e := Put(c.o, c.bound, c.text); !Same(got, c.want) || now != c.now || e != c.e {
			t.Error(i, got, now, e)
		}
	}
}

func TestAcked(t *testing.T) {
	o := with(3, 4, 8, 5, "a", "b")
	for i, c := range []struct {
		o         Out
		peer, seq int
		want      Out
		now       bool
	}{
		{o, 3, 4, with(3, 5, 1, 1, "b"), true}, {o, 3, 3, o, false}, {o, 3, 5, o, false}, {o, 2, 4, o, false}, {o, 4, 4, o, false},
		{with(3, 4, 8, 5, "a"), 3, 4, with(3, 5, 1, 0), false}, {with(3, 4, 8, 5), 3, 4, with(3, 4, 8, 5), false},
	} {
		if got, now := Acked(c.o, c.peer, c.seq); !Same(got, c.want) || now != c.now {
			t.Error(i, got, now)
		}
	}
}

func TestLearn(t *testing.T) {
	o := with(3, 4, 8, 5, "a", "b")
	for i, c := range []struct {
		o    Out
		peer int
		want Out
		now  bool
	}{
		{o, 3, o, false}, {o, 2, o, false}, {o, math.MinInt, o, false}, {o, 4, with(4, 1, 1, 1, "a", "b"), true}, {with(3, 4, 8, 5), 9, with(9, 1, 8, 5), false},
	} {
		if got, now := Learn(c.o, c.peer); !Same(got, c.want) || now != c.now {
			t.Error(i, got, now)
		}
	}
}

func TestTick(t *testing.T) {
	for i, c := range []struct {
		o, want Out
		now     bool
	}{
		{with(1, 1, 1, 1, "a"), with(1, 1, 2, 2, "a"), true}, {with(1, 1, 2, 2, "a"), with(1, 1, 2, 1, "a"), false}, {with(1, 1, 8, 1, "a"), with(1, 1, 8, 8, "a"), true},
		{with(1, 1, 1, 1), with(1, 1, 1, 1), false}, {with(1, 1, 1, 0, "a"), with(1, 1, 1, 0, "a"), false},
	} {
		if got, now := Tick(c.o); !Same(got, c.want) || now != c.now {
			t.Error(i, got, now)
		}
	}
}

func TestFirstAndSame(t *testing.T) {
	if First(New()) != "" || First(with(1, 1, 1, 1, "a", "b")) != "a" || !Same(New(), with(1, 1, 1, 0)) || !Same(with(1, 1, 1, 0), Out{1, 1, []string{}, pace.New()}) {
		t.Error("first")
	}
	a := with(1, 2, 4, 3, "a")
	for i, b := range []Out{with(2, 2, 4, 3, "a"), with(1, 3, 4, 3, "a"), with(1, 2, 8, 3, "a"), with(1, 2, 4, 2, "a"), with(1, 2, 4, 3, "b"), with(1, 2, 4, 3)} {
		if Same(a, b) {
			t.Error(i)
		}
	}
}

func TestMemory(t *testing.T) {
	texts := []string{"a", "b", "c", "d"}
	o := with(1, 1, 1, 1)
	o.Texts = texts[:2]
	results := []Out{}
	add := func(x Out, _ bool) { results = append(results, x) }
	put := func(text string, bound int) {
		x, now, _ := Put(o, bound, text)
		add(x, now)
	}
	put("x", 9)
	put("a", 9)
	put("x", 1)
	put("", 9)
	add(Acked(o, 1, 1))
	add(Acked(o, 1, 2))
	add(Learn(o, 1))
	add(Learn(o, 2))
	add(Tick(o))
	for i, x := range results {
		for k := range x.Texts {
			x.Texts[k] = "z"
		}
		if !slices.Equal(texts, []string{"a", "b", "c", "d"}) {
			t.Fatal(i, "shares memory")
		}
	}
}

func TestWaiting(t *testing.T) {
	r := rand.New(rand.NewSource(5))
	o := New()
	quiet := 0
	for range 5000 {
		now := false
		switch r.Intn(4) {
		case 0:
			o, now, _ = Put(o, 3, string(rune('a'+r.Intn(6))))
		case 1:
			o, now = Acked(o, r.Intn(4), 1+r.Intn(3))
		case 2:
			if r.Intn(50) == 0 {
				o, now = Learn(o, r.Intn(3)+o.Peer-1)
			}
		case 3:
			quiet++
			o, now = Tick(o)
		}
		if now || len(o.Texts) == 0 {
			quiet = 0
		}
		sorted := slices.Clone(o.Texts)
		slices.Sort(sorted)
		if len(o.Texts) > 3 || len(slices.Compact(sorted)) != len(o.Texts) || quiet >= api.MaxWait {
			t.Fatal(o, quiet)
		}
	}
}

func TestExample(t *testing.T) {
	o, _, _ := Put(New(), 5, "a")
	o, _, _ = Put(o, 5, "b")
	o, _, _ = Put(o, 5, "a")
	if !slices.Equal(o.Texts, []string{"a", "b"}) {
		t.Error(o)
	}
	if o, now := Acked(o, 1, 1); !now || First(o) != "b" || o.Seq != 2 {
		t.Error(o)
	}
}
