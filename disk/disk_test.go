package disk

import (
	"math"
	"testing"

	"siskin/api"
)

func TestNew(t *testing.T) {
	for _, room := range []int{-1, api.MaxRoom + 1, math.MinInt, math.MaxInt} {
		if New(room) != nil {
			t.Error(room)
		}
	}
	for _, room := range []int{0, 1, api.MaxRoom} {
		if d := New(room); d == nil || d.Free() != room || d.Size() != 0 || len(d.Bytes()) != 0 {
			t.Error(room)
		}
	}
}

func TestAppend(t *testing.T) {
	d := New(5)
	if d.Append([]byte("ab")) != api.OK || d.Append(nil) != api.OK || d.Append([]byte("cdef")) != api.ErrFull || d.Append([]byte("cde")) != api.OK {
		t.Error("append")
	}
	if string(d.Bytes()) != "abcde" || d.Size() != 5 || d.Free() != 0 || d.Append([]byte("f")) != api.ErrFull || d.Append(nil) != api.OK {
		t.Errorf("%q", d.Bytes())
	}
}

func TestFuse(t *testing.T) {
	for i, c := range []struct {
		fuse int
		b    string
		want string
		e    api.Errno
	}{
		{0, "ab", "x", api.ErrPower}, {1, "ab", "xa", api.ErrPower}, {2, "ab", "xab", api.ErrPower}, {99, "ab", "xab", api.ErrPower}, {math.MaxInt, "ab", "xab", api.ErrPower},
		{3, "", "x", api.ErrPower}, {-1, "ab", "xab", api.OK}, {math.MinInt, "ab", "xab", api.OK}, {1, "abcde", "x", api.ErrFull},
	} {
		d := New(5)
		d.Append([]byte("x"))
		d.Fuse(c.fuse)
		if e := d.Append([]byte(c.b)); e != c.e || string(d.Bytes()) != c.want {
			t.Errorf("%d: %d %q", i, e, d.Bytes())
		}
		// A fuse is gone once power failed, and stays if nothing was written.
		want := api.OK
		if c.e == api.ErrFull {
			want = api.ErrPower
		}
		if e := d.Append(nil); e != want {
			t.Error(i, e)
		}
	}
	d := New(5)
	d.Fuse(1)
	d.Fuse(-1)
	if d.Append([]byte("a")) != api.OK {
		t.Error("removed")
	}
	d.Fuse(1)
	if d.Append([]byte("bc")) != api.ErrPower || d.Size() != 2 || d.Append([]byte("defgh")) != api.ErrFull {
		t.Error("example")
	}
}

func TestCut(t *testing.T) {
	d := New(9)
	d.Append([]byte("abcdef"))
	d.Fuse(1)
	if d.Cut(7) != api.ErrRange || d.Cut(-1) != api.ErrRange || d.Cut(6) != api.OK || d.Cut(2) != api.OK || string(d.Bytes()) != "ab" || d.Free() != 7 {
		t.Error("cut")
	}
	if d.Append([]byte("xy")) != api.ErrPower || string(d.Bytes()) != "abx" {
		t.Error("fuse after a cut")
	}
	if d.Append([]byte("yz")) != api.OK || string(d.Bytes()) != "abxyz" || d.Cut(0) != api.OK || d.Size() != 0 {
		t.Error("after a cut")
	}
}

func TestMemory(t *testing.T) {
	b := []byte("abc")
	d := New(9)
	d.Append(b[:2])
	b[0] = 'x'
	d.Bytes()[1] = 'y'
	if string(d.Bytes()) != "ab" || string(b) != "xbc" {
		t.Errorf("%q", d.Bytes())
	}
	d.Fuse(1)
	c := d.Clone()
	c.Append([]byte("mn"))
	d.Cut(1)
	if string(d.Bytes()) != "a" || string(c.Bytes()) != "abm" || c.Free() != 6 || d.Append([]byte("mn")) != api.ErrPower {
		t.Errorf("%q %q", d.Bytes(), c.Bytes())
	}
}

func TestNil(t *testing.T) {
	var d *Disk
	d.Fuse(1)
	if d.Append(nil) != api.ErrArg || d.Cut(0) != api.ErrArg || len(d.Bytes()) != 0 || d.Size() != 0 || d.Free() != 0 || d.Clone() != nil {
		t.Error("nil")
	}
}
