package port

import (
	"math"
	"slices"
	"strings"
	"testing"

	"siskin/api"
	"siskin/pack"
)

func opened(t *testing.T, l []string) []pack.Packet {
	var packets []pack.Packet
	for _, s := range l {
		p, e := pack.Open(s)
		if e != api.OK {
			t.Fatal(e)
		}
		packets = append(packets, p)
	}
	return packets
}

func TestNew(t *testing.T) {
	for i, c := range []struct {
		node, inc, bound int
		ok               bool
	}{
		{0, 1, 1, true}, {71, api.MaxNum, 16, true}, {-1, 1, 1, false}, {72, 1, 1, false}, {0, 0, 1, false}, {0, api.MaxNum + 1, 1, false}, {0, 1, 0, false}, {0, 1, 17, false},
		{math.MinInt, 1, 1, false}, {0, math.MinInt, 1, false}, {0, 1, math.MaxInt, false},
	} {
		if p := New(c.node, c.inc, c.bound); (p != nil) != c.ok {
			t.Error(i)
		}
	}
}

func TestPut(t *testing.T) {
	p := New(0, 3, 2)
	for _, to := range []int{0, -1, 72, math.MinInt, math.MaxInt} {
		if l, e := p.Put(to, "x"); e != api.ErrArg || len(l) != 0 || p.Waits(to) != 0 {
			t.Error(to)
		}
	}
	l, e := p.Put(8, "x")
	if got := opened(t, l); e != api.OK || !slices.Equal(got, []pack.Packet{{Kind: pack.Data, From: 0, To: 8, Inc: 3, Peer: 1, Seq: 1, Body: "x"}}) {
		t.Error(got, e)
	}
	for i, c := range []struct {
		text  string
		e     api.Errno
		waits int
	}{{"", api.ErrArg, 1}, {strings.Repeat("x", 33), api.ErrArg, 1}, {"x", api.OK, 1}, {"y", api.OK, 2}, {"z", api.ErrFull, 2}, {"y", api.OK, 2}} {
		if l, e := p.Put(8, c.text); e != c.e || len(l) != 0 || p.Waits(8) != c.waits {
			t.Error(i, e)
		}
	}
	if l, e := p.Put(71, "x"); e != api.OK || len(l) != 1 || p.Waits(71) != 1 || p.Waits(9) != 0 || p.Waits(-1) != 0 {
		t.Error("another node")
	}
}

func TestBare(t *testing.T) {
	p := New(4, 3, 2)
	got := opened(t, p.Bare(9, "b"))
	if !slices.Equal(got, []pack.Packet{{Kind: pack.Bare, From: 4, To: 9, Inc: 3, Body: "b"}}) || p.Waits(9) != 0 || len(p.Tick()) != 0 {
		t.Error(got)
	}
	if len(p.Bare(4, "b")) != 0 || len(p.Bare(72, "b")) != 0 || len(p.Bare(-1, "b")) != 0 || len(p.Bare(9, "")) != 0 || len(p.Bare(9, strings.Repeat("b", 33))) != 0 || len(p.Bare(9, strings.Repeat("b", 32))) != 1 {
		t.Error("no such packet")
	}
}

func TestTake(t *testing.T) {
	a, b := New(0, 1, 4), New(8, 1, 4)
	l, _ := a.Put(8, "x")
	from, text, replies, e := b.Take(l[0])
	if from != 0 || text != "x" || len(replies) != 1 || e != api.OK {
		t.Error(from, text, replies, e)
	}
	if from, text, replies, e := b.Take(l[0]); from != 0 || text != "" || len(replies) != 1 || e != api.OK {
		t.Error("again", from, text, replies, e)
	}
	if from, text, l, e := a.Take(replies[0]); from != 8 || text != "" || len(l) != 0 || e != api.OK || a.Waits(8) != 0 {
		t.Error("ack", from, text, l, e)
	}
	if from, text, l, e := b.Take(a.Bare(8, "bare")[0]); from != 0 || text != "bare" || len(l) != 0 || e != api.OK {
		t.Error("bare", from, text, l, e)
	}
	for i, c := range []struct {
		s string
		e api.Errno
	}{{"", api.ErrShort}, {l[0][:9], api.ErrShort}, {l[0] + "x", api.ErrForm}, {replies[0], api.ErrArg}, {a.Bare(9, "x")[0], api.ErrArg}} {
		if from, text, l, e := b.Take(c.s); from != -1 || text != "" || len(l) != 0 || e != c.e {
			t.Error(i, from, text, l, e)
		}
	}
}

func TestTick(t *testing.T) {
	p := New(5, 1, 4)
	for _, to := range []int{70, 3, 11, 0, 64, 9} {
		p.Put(to, "x")
	}
	p.Put(9, "y")
	want := []int{0, 3, 9, 11, 64, 70}
	for tick := 1; tick <= 31; tick++ {
		got := opened(t, p.Tick())
		if due := slices.Contains([]int{1, 3, 7, 15, 23, 31}, tick); due != (len(got) > 0) {
			t.Fatal(tick, got)
		} else if !due {
			continue
		}
		for i, x := range got {
			if len(got) != len(want) || x.To != want[i] || x.Body != "x" {
				t.Fatal(tick, got)
			}
		}
	}
}

func TestClone(t *testing.T) {
	p := New(0, 1, 4)
	p.Put(8, "x")
	p.Put(8, "y")
	c := p.Clone()
	c.Put(8, "z")
	c.Put(9, "z")
	p.Put(8, "w")
	if p.Waits(8) != 3 || c.Waits(8) != 3 || p.Waits(9) != 0 || c.Waits(9) != 1 {
		t.Error("clone")
	}
	q := p.Clone()
	if !slices.Equal(p.Tick(), q.Tick()) || !slices.Equal(p.Bare(8, "b"), q.Bare(8, "b")) {
		t.Error("unequal")
	}
}

func TestFlipped(t *testing.T) {
	a, b := New(0, 1, 4), New(8, 1, 4)
	l, _ := a.Put(8, "x")
	for at := 8; at < 8*len(l[0]); at++ {
		bytes := []byte(l[0])
		for j := 0; j < 32 && at+j < 8*len(bytes); j += 3 {
			bytes[(at+j)/8] ^= 1 << ((at + j) % 8)
		}
		if from, text, out, e := b.Take(string(bytes)); e == api.OK || from != -1 || text != "" || len(out) != 0 {
			t.Fatal(at)
		}
	}
	if _, text, _, _ := b.Take(l[0]); text != "x" {
		t.Error("an effect")
	}
}

func TestNil(t *testing.T) {
	var p *Port
	if l, e := p.Put(1, "x"); len(l) != 0 || e != api.ErrArg {
		t.Error("put")
	}
	if from, text, l, e := p.Take("x"); from != -1 || text != "" || len(l) != 0 || e != api.ErrArg {
		t.Error("take")
	}
	if len(p.Bare(1, "x")) != 0 || len(p.Tick()) != 0 || p.Waits(1) != 0 || p.Clone() != nil {
		t.Error("nil")
	}
}
