package names

import (
	"math/bits"
	"slices"
	"strconv"
	"testing"

	"siskin/api"
)

func many(n int) []string {
	var l []string
	for i := range n {
		l = append(l, "n"+strconv.Itoa(100+i))
	}
	return l
}

func TestCheck(t *testing.T) {
	for i, c := range []struct {
		l []string
		e api.Errno
	}{
		{nil, api.OK}, {[]string{"a"}, api.OK}, {[]string{"a", "b"}, api.OK}, {many(16), api.OK}, {many(17), api.ErrArg},
		{append(many(16), "2x"), api.ErrArg}, {[]string{"2x"}, api.ErrName}, {[]string{""}, api.ErrName},
		{[]string{"a", "B"}, api.ErrName}, {[]string{"b", "a"}, api.ErrArg}, {[]string{"a", "a"}, api.ErrArg},
		{[]string{"b", "A"}, api.ErrName}, {[]string{"a", "ab", "b", "ß"}, api.OK}, {[]string{"ß", "z"}, api.ErrArg},
		{[]string{"b", "a", "A"}, api.ErrArg}, {[]string{"A", "b", "a"}, api.ErrName},
	} {
		if e := Check(c.l); e != c.e {
			t.Error(i, e)
		}
	}
}

func TestPlace(t *testing.T) {
	l := []string{"b", "a", "b", ""}
	if Place(l, "b") != 0 || Place(l, "a") != 1 || Place(l, "") != 3 || Place(l, "c") != -1 || Place(nil, "") != -1 {
		t.Error("place")
	}
	if long := many(100); Place(long, "n199") != 99 {
		t.Error("long")
	}
}

func TestSet(t *testing.T) {
	l := []string{"gpu", "ssd"}
	for i, c := range []struct {
		names []string
		set   uint64
		at    int
		e     api.Errno
	}{
		{nil, 0, -1, api.OK}, {[]string{"ssd"}, 2, -1, api.OK}, {[]string{"ssd", "gpu", "ssd"}, 3, -1, api.OK},
		{[]string{"ssd", "tpu"}, 0, 1, api.ErrName}, {[]string{"", "tpu"}, 0, 0, api.ErrName},
	} {
		if set, at, e := Set(l, c.names...); set != c.set || at != c.at || e != c.e {
			t.Error(i, set, at, e)
		}
	}
	long := many(70)
	if set, at, e := Set(long, "n163"); set != 1<<63 || at != -1 || e != api.OK {
		t.Error("63", set, at, e)
	}
	if set, at, e := Set(long, "n100", "n164"); set != 0 || at != 1 || e != api.ErrName {
		t.Error("64", set, at, e)
	}
}

func TestTell(t *testing.T) {
	l := []string{"gpu", "ssd", "tpu"}
	if !slices.Equal(Tell(l, 5), []string{"gpu", "tpu"}) || len(Tell(l, 0)) != 0 || len(Tell(nil, 7)) != 0 || !slices.Equal(Tell(l, 8|2), []string{"ssd"}) {
		t.Error("tell")
	}
	if got := Tell(many(70), 1<<63); !slices.Equal(got, []string{"n163"}) {
		t.Error(got)
	}
	if got := Tell(many(70), ^uint64(0)); len(got) != 64 {
		t.Error(len(got))
	}
	got := Tell(l, 7)
	got[0] = "x"
	if l[0] != "gpu" {
		t.Error("shares memory")
	}
}

func TestSame(t *testing.T) {
	if !Same(nil, []string{}) || !Same(many(3), many(3)) || Same(many(3), many(4)) || Same([]string{"a", "b"}, []string{"b", "a"}) {
		t.Error("same")
	}
}

func TestTogether(t *testing.T) {
	l := many(16)
	for _, s := range []uint64{0, 1, 0xffff, 0x8421, 1 << 15, 1<<16 | 3, ^uint64(0)} {
		told := Tell(l, s)
		if set, _, e := Set(l, told...); set != s&0xffff || e != api.OK || len(told) != bits.OnesCount64(s&0xffff) {
			t.Error(s)
		}
	}
	for i, s := range l {
		if Place(l, s) != i {
			t.Error(i)
		}
	}
}
