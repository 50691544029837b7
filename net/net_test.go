package net

import (
	"math"
	"slices"
	"testing"

	"siskin/api"
)

func of(l ...string) *Net {
	n := New(8)
	n.Send(1, 9, l...)
	return n
}

func texts(n *Net) []string {
	var l []string
	for _, x := range n.List() {
		l = append(l, x.Bytes)
	}
	return l
}

func TestSend(t *testing.T) {
	for _, most := range []int{0, -1, api.MaxNet + 1, math.MinInt} {
		if New(most) != nil {
			t.Error(most)
		}
	}
	if n := New(api.MaxNet); n == nil || n.Send(0, 1, make([]string, 2000)...) != api.MaxNet || n.Len() != api.MaxNet {
		t.Error("the greatest net")
	}
	n := New(3)
	if n.Send(1, 2, "a", "b") != 2 || n.Send(-3, 99) != 0 || n.Send(-3, 99, "c", "d", "e") != 1 || n.Send(1, 2, "f") != 0 || n.Len() != 3 {
		t.Error("send")
	}
	if want := []Thing{{1, 2, "a", false}, {1, 2, "b", false}, {-3, 99, "c", false}}; !slices.Equal(n.List(), want) {
		t.Error(n.List())
	}
}

func TestTake(t *testing.T) {
	n := of("a", "b", "c")
	for _, k := range []int{-1, 3, math.MinInt, math.MaxInt} {
		if x, e := n.Take(k); e != api.ErrRange || x != (Thing{}) || n.Len() != 3 {
			t.Error(k, e)
		}
	}
	if x, e := n.Take(1); e != api.OK || x != (Thing{1, 9, "b", false}) || !slices.Equal(texts(n), []string{"a", "c"}) {
		t.Error(x, e)
	}
	n.Send(1, 9, "d")
	for _, want := range []string{"a", "c", "d"} {
		if x, e := n.Take(0); e != api.OK || x.Bytes != want {
			t.Error(x, e)
		}
	}
	if _, e := n.Take(0); e != api.ErrRange {
		t.Error(e)
	}
}

func TestTwice(t *testing.T) {
	n := of("a", "b")
	n.Turn(0, 0, 1)
	if n.Twice(2) != api.ErrRange || n.Twice(-1) != api.ErrRange {
		t.Error("range")
	}
	n = of("aa", "b")
	n.Turn(0, 0, 1)
	if n.Twice(0) != api.OK || !slices.Equal(n.List(), []Thing{{1, 9, "a`", true}, {1, 9, "b", false}, {1, 9, "a`", true}}) {
		t.Error(n.List())
	}
	full := New(1)
	full.Send(1, 2, "a")
	if full.Twice(0) != api.OK || full.Len() != 1 {
		t.Error("full")
	}
}

func TestTurn(t *testing.T) {
	for i, c := range []struct {
		s    string
		k    int
		at   int
		bits uint32
		want string
		e    api.Errno
	}{
		{"\x00\x00\x00", 0, 0, 1, "\x00\x01\x00", api.OK}, {"\x00\x00\x00", 0, 7, 3, "\x00\x80\x01", api.OK}, {"\x00\x00\x00", 0, 15, 0xffffffff, "\x00\x00\x80", api.OK},
		{"\x00\x00\x00", 0, 3, 0x105, "\x00\x28\x08", api.OK}, {"\x00\x00\x00", 0, 16, 1, "", api.ErrRange}, {"\x00\x00\x00", 0, -1, 1, "", api.ErrRange},
		{"\x00", 0, 0, 1, "", api.ErrRange}, {"", 0, 0, 1, "", api.ErrRange}, {"\x00\x00", 1, 0, 1, "", api.ErrRange}, {"\x00\x00", -1, 0, 1, "", api.ErrRange},
		{"\x05\xff", 0, 0, 0, "\x05\xff", api.OK}, {"\x05\xff\xff\xff\xff\xff\xff", 0, 8, 0x80000001, "\x05\xff\xfe\xff\xff\x7f\xff", api.OK},
		{"\x00\x00", 0, math.MaxInt, 1, "", api.ErrRange}, {"\x00\x00", 0, math.MinInt, 1, "", api.ErrRange},
	} {
		n := of(c.s)
		e := n.Turn(c.k, c.at, c.bits)
		want := Thing{1, 9, c.want, true}
		if c.e != api.OK {
			want = Thing{1, 9, c.s, false}
		}
		if e != c.e || n.List()[0] != want {
			t.Error(i, e, n.List())
		}
		if c.e == api.OK && (n.Turn(0, 0, 1) != api.ErrThere || n.Turn(0, -1, 1) != api.ErrThere || n.List()[0] != want) {
			t.Error(i, "twice")
		}
	}
	n := of("aa")
	n.Turn(0, 0, 0)
	n.Twice(0)
	if n.Turn(1, 0, 1) != api.ErrThere {
		t.Error("a copy has the flag")
	}
}

func TestMemory(t *testing.T) {
	n := of("aa", "b")
	n.List()[0].To = 77
	c := n.Clone()
	c.Turn(0, 0, 1)
	c.Send(1, 2, "x")
	n.Take(1)
	if !slices.Equal(texts(n), []string{"aa"}) || !slices.Equal(texts(c), []string{"a`", "b", "x"}) || n.List()[0].To != 9 {
		t.Error(n.List(), c.List())
	}
	if c.Send(1, 2, make([]string, 9)...) != 5 {
		t.Error("the clone's limit")
	}
}

func TestNil(t *testing.T) {
	var n *Net
	if x, e := n.Take(0); e != api.ErrArg || x != (Thing{}) {
		t.Error("take")
	}
	if n.Twice(0) != api.ErrArg || n.Turn(0, 0, 1) != api.ErrArg || n.Send(1, 2, "x") != 0 || n.Len() != 0 || len(n.List()) != 0 || n.Clone() != nil {
		t.Error("nil")
	}
}
