package octet

import (
	"math"
	"strings"
	"testing"

	"siskin/api"
)

var edges = []int{0, 1, 247, 248, 255, 256, 300, 65535, 65536, 1<<24 - 1, 1 << 24, 1<<32 - 1, 1 << 32, 1 << 40, 1 << 48, api.MaxNum - 1, api.MaxNum}

func TestNum(t *testing.T) {
	for _, c := range []struct {
		n    int
		want string
	}{
		{0, "\x00"}, {247, "\xf7"}, {248, "\xf8\xf8"}, {255, "\xf8\xff"}, {256, "\xf9\x01\x00"}, {300, "\xf9\x01\x2c"},
		{65536, "\xfa\x01\x00\x00"}, {1 << 24, "\xfb\x01\x00\x00\x00"}, {1 << 32, "\xfc\x01\x00\x00\x00\x00"},
		{1 << 40, "\xfd\x01\x00\x00\x00\x00\x00"}, {api.MaxNum, "\xfe\xff\xff\xff\xff\xff\xff\xff"},
		{api.MaxNum + 1, "\xfe\xff\xff\xff\xff\xff\xff\xff"}, {math.MaxInt, "\xfe\xff\xff\xff\xff\xff\xff\xff"},
		{-1, "\x00"}, {math.MinInt, "\x00"},
	} {
		if got := string(Num([]byte("x"), c.n)); got != "x"+c.want {
			t.Errorf("%d: %q", c.n, got)
		}
	}
}

func TestText(t *testing.T) {
	if got := string(Text([]byte{9}, "ab")); got != "\x09\x02ab" {
		t.Errorf("%q", got)
	}
	long := strings.Repeat("y", 300)
	if got := string(Text(nil, long)); got != "\xf9\x01\x2c"+long {
		t.Errorf("long: %q", got[:5])
	}
	if got := string(Text(nil, "")); got != "\x00" {
		t.Errorf("empty: %q", got)
	}
}

func TestBehindLength(t *testing.T) {
	b := []byte("abcdef")
	Num(b[:1], 300)
	Text(b[:1], "zz")
	if string(b) != "abcdef" {
		t.Errorf("%q", b)
	}
	got := Num(b[:1], 7)
	got[0] = 'q'
	if b[0] != 'a' {
		t.Error("shares memory")
	}
}

func TestErrors(t *testing.T) {
	for i, c := range []struct {
		s    string
		most int
		e    api.Errno
		n    int
	}{
		{"", 99, api.ErrShort, 0}, {"\xff", 99, api.ErrForm, 0}, {"\xff\x01\x02", 99, api.ErrForm, 0},
		{"\xf8", 99, api.ErrShort, 0}, {"\xf9\x01", 999, api.ErrShort, 0}, {"\xf8\x07", 99, api.ErrForm, 0},
		{"\xf8\xf7", 999, api.ErrForm, 0}, {"\xf9\x00\xff", 99, api.ErrForm, 0}, {"\x64", 99, api.ErrLong, 0},
		{"\x63", 99, api.OK, 99}, {"\x00", -5, api.OK, 0}, {"\x01", -5, api.ErrLong, 0},
		{"\xfe\xff\xff\xff\xff\xff\xff\xff", api.MaxNum, api.OK, api.MaxNum},
		{"\xfe\xff\xff\xff\xff\xff\xff\xff", api.MaxNum - 1, api.ErrLong, 0},
		{"\xf8\xf8", 248, api.OK, 248}, {"\xf8\xf8", 247, api.ErrLong, 0},
	} {
		r := New([]byte(c.s))
		if n := r.Num(c.most); n != c.n || r.Err() != c.e {
			t.Error(i, n, r.Err())
		}
		if c.e != api.OK && r.Left() != len(c.s) {
			t.Error(i, "consumed", r.Left())
		}
	}
}

func TestTextErrors(t *testing.T) {
	for i, c := range []struct {
		s    string
		most int
		want string
		e    api.Errno
		left int
	}{
		{"\x02ab", 5, "ab", api.OK, 0}, {"\x02abc", 2, "ab", api.OK, 1}, {"\x03ab", 5, "", api.ErrShort, 3},
		{"\x03abc", 2, "", api.ErrLong, 4}, {"\x00", 0, "", api.OK, 0}, {"", 5, "", api.ErrShort, 0},
		{"\xff", 5, "", api.ErrForm, 1}, {"\x09ab", 5, "", api.ErrLong, 3},
	} {
		r := New([]byte(c.s))
		if s := r.Text(c.most); s != c.want || r.Err() != c.e || r.Left() != c.left {
			t.Error(i, s, r.Err(), r.Left())
		}
	}
}

func TestAfterFailure(t *testing.T) {
	r := New([]byte{5, 1, 'a', 7})
	if r.Num(4) != 0 || r.Err() != api.ErrLong {
		t.Error("first")
	}
	if r.Num(99) != 0 || r.Text(99) != "" || r.Left() != 4 || r.Err() != api.ErrLong || r.End() != api.ErrLong {
		t.Error("later reads")
	}
	r.Fail(api.ErrSum)
	if r.Err() != api.ErrLong {
		t.Error("the first error stays")
	}
}

func TestFailAndEnd(t *testing.T) {
	r := New([]byte{5, 6})
	r.Fail(api.OK)
	if r.Err() != api.OK || r.End() != api.ErrForm {
		t.Error("end with bytes left")
	}
	if r.Err() != api.OK || r.Num(9) != 5 || r.End() != api.ErrForm {
		t.Error("end is no read")
	}
	r.Num(9)
	if r.End() != api.OK || r.Left() != 0 {
		t.Error("end")
	}
	r.Fail(api.ErrSum)
	if r.Err() != api.ErrSum || r.End() != api.ErrSum || r.Num(9) != 0 {
		t.Error("fail")
	}
}

func TestCopied(t *testing.T) {
	b := []byte{5}
	r := New(b)
	b[0] = 6
	if r.Num(9) != 5 {
		t.Error("not a copy")
	}
}

func TestNil(t *testing.T) {
	var r *Reader
	r.Fail(api.ErrSum)
	if r.Num(9) != 0 || r.Text(9) != "" || r.Left() != 0 || r.Err() != api.ErrArg || r.End() != api.ErrArg {
		t.Error("nil")
	}
}

func TestRoundTrip(t *testing.T) {
	for _, n := range edges {
		b := Num(nil, n)
		r := New(append(b, "tail"...))
		if r.Num(api.MaxNum) != n || r.Err() != api.OK || r.Left() != 4 {
			t.Error(n)
		}
	}
	for _, k := range []int{0, 1, 247, 248, 300, 70000} {
		s := strings.Repeat("s", k)
		r := New(append(Text(nil, s), "tail"...))
		if r.Text(k) != s || r.Left() != 4 {
			t.Error(k)
		}
	}
}

func TestCanonical(t *testing.T) {
	for a := range 256 {
		for b := range 256 {
			l := []byte{byte(a), byte(b), byte(a ^ b)}
			r := New(l)
			n := r.Num(api.MaxNum)
			if r.Err() == api.OK && string(Num(nil, n)) != string(l[:3-r.Left()]) {
				t.Fatal(l)
			}
		}
	}
}
