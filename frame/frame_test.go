package frame

import (
	"slices"
	"strings"
	"testing"

	"siskin/api"
)

func TestPut(t *testing.T) {
	if got := string(Put(nil, "")); got != "\x00\x8d\xef\x02\xd2" {
		t.Errorf("%q", got)
	}
	if got := string(Put([]byte("b"), "xy")); got[:4] != "b\x02xy" || len(got) != 8 {
		t.Errorf("%q", got)
	}
	long := strings.Repeat("l", api.MaxFrame)
	if len(Put(nil, long)) != api.MaxFrame+3+4 {
		t.Error("the longest payload")
	}
	if string(Put([]byte("b"), long+"l")) != "b" {
		t.Error("a payload that is too long")
	}
	b := []byte("abcdef")
	Put(b[:1], "zz")[0] = 'x'
	Put(b[:1], long+"l")[0] = 'x'
	if string(b) != "abcdef" {
		t.Errorf("%q", b)
	}
}

func TestCut(t *testing.T) {
	for _, s := range []string{"", "a", strings.Repeat("m", 300), strings.Repeat("l", api.MaxFrame)} {
		b := Put(nil, s)
		for _, tail := range []string{"", "tail", strings.Repeat("t", 9)} {
			got, used, e := Cut(append(append([]byte(nil), b...), tail...))
			if got != s || used != len(b) || e != api.OK {
				t.Error(len(s), used, e)
			}
		}
		for i := range b {
			if got, used, e := Cut(b[:i]); got != "" || used != 0 || e != api.ErrShort {
				t.Fatal(i, used, e)
			}
		}
	}
}

func TestCutErrors(t *testing.T) {
	frame := Put(nil, "ab")
	for i, c := range []struct {
		b []byte
		e api.Errno
	}{
		{nil, api.ErrShort}, {[]byte{255}, api.ErrForm}, {[]byte{248}, api.ErrShort}, {[]byte{248, 7}, api.ErrForm},
		{[]byte{249, 16, 1}, api.ErrLong}, {[]byte{249, 16, 0}, api.ErrShort}, {[]byte{0, 1, 2, 3}, api.ErrShort},
		{[]byte{0, 1, 2, 3, 4}, api.ErrSum}, {append(frame[:len(frame)-1:len(frame)-1], 0), api.ErrSum},
		{[]byte{254, 0, 0, 0, 0, 0, 0, 1}, api.ErrForm}, {[]byte{254, 1, 0, 0, 0, 0, 0, 1}, api.ErrLong},
	} {
		if got, used, e := Cut(c.b); got != "" || used != 0 || e != c.e {
			t.Error(i, used, e)
		}
	}
}

func TestAll(t *testing.T) {
	words := []string{"", "one", "two", strings.Repeat("x", 260), ""}
	var b []byte
	var ends []int
	for _, w := range words {
		b = Put(b, w)
		ends = append(ends, len(b))
	}
	for i := range len(b) + 1 {
		k := 0
		for k < len(ends) && ends[k] <= i {
			k++
		}
		want := 0
		if k > 0 {
			want = ends[k-1]
		}
		if got, good := All(b[:i]); !slices.Equal(got, words[:k]) || good != want {
			t.Fatal(i, got, good)
		}
	}
	if got, good := All(append(b, 255)); len(got) != 5 || good != len(b) {
		t.Error(got, good)
	}
}

func TestCorrupted(t *testing.T) {
	first := Put(nil, "first")
	b := Put(Put(first, "second"), "third")
	from, to := len(first)+1, len(first)+7+4
	for at := 8 * from; at < 8*to; at++ {
		c := append([]byte(nil), b...)
		for j := 0; j < 32 && at+j < 8*to; j += 5 {
			c[(at+j)/8] ^= 1 << ((at + j) % 8)
		}
		if got, good := All(c); !slices.Equal(got, []string{"first"}) || good != len(first) {
			t.Fatal(at, got)
		}
	}
}
