package seen

import (
	"math"
	"math/rand"
	"testing"
)

func TestLearn(t *testing.T) {
	if New(4) != (In{4, 1, 0}) {
		t.Error(New(4))
	}
	i := In{2, 3, 7}
	if Learn(i, 3) != i || Learn(i, 2) != i || Learn(i, math.MinInt) != i || Learn(i, 4) != (In{2, 4, 0}) {
		t.Error("learn")
	}
}

func TestTake(t *testing.T) {
	i := In{2, 3, 7}
	for k, c := range []struct {
		in           In
		inc, me, seq int
		want         In
		class        int
	}{
		{i, 2, 2, 8, i, Drop}, {i, 2, 1, 8, i, Drop}, {i, 3, 1, 8, i, Stale}, {i, 3, 3, 8, i, Drop}, {i, 3, 2, 8, In{2, 3, 8}, Fresh}, {i, 3, 2, 7, i, Old}, {i, 3, 2, 1, i, Old},
		{i, 3, 2, 0, i, Drop}, {i, 3, 2, -1, i, Drop}, {i, 3, 2, 9, i, Drop}, {i, 4, 2, 1, In{2, 4, 1}, Fresh}, {i, 4, 2, 8, In{2, 4, 0}, Drop}, {i, 4, 1, 1, In{2, 4, 0}, Stale},
		{i, 9, 3, 1, In{2, 9, 0}, Drop}, {In{1, 1, math.MaxInt}, 1, 1, math.MinInt, In{1, 1, math.MaxInt}, Drop}, {In{1, 1, -5}, 1, 1, -4, In{1, 1, -4}, Fresh},
	} {
		if got, class := Take(c.in, c.inc, c.me, c.seq); got != c.want || class != c.class {
			t.Error(k, got, class)
		}
	}
	if Drop != 0 || Fresh != 1 || Old != 2 || Stale != 3 {
		t.Error("constants")
	}
}

func TestExample(t *testing.T) {
	i := New(2)
	for k, c := range []struct{ inc, me, seq, class int }{{1, 2, 1, Fresh}, {1, 2, 1, Old}, {1, 1, 2, Stale}, {3, 2, 1, Fresh}, {1, 2, 2, Drop}} {
		var class int
		if i, class = Take(i, c.inc, c.me, c.seq); class != c.class {
			t.Error(k, class)
		}
	}
}

func TestOnce(t *testing.T) {
	r := rand.New(rand.NewSource(6))
	for range 200 {
		i := New(2)
		inc, last := 1, 0
		for range 100 {
			from, seq := 1+r.Intn(3), r.Intn(6)
			var class int
			i, class = Take(i, from, 1+r.Intn(3), seq)
			if class != Fresh {
				continue
			}
			if from != inc {
				last = 0
			}
			if from < inc || seq != last+1 {
				t.Fatal(from, seq)
			}
			inc, last = from, seq
		}
	}
}
