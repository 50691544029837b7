package msg

import (
	"math"
	"strings"
	"testing"

	"siskin/api"
)

// full has for each kind the message with all fields at their greatest.
var full = []api.Msg{
	{Kind: api.Probe, Job: api.MaxNum, Epoch: 9}, {Kind: api.Full, Job: api.MaxNum}, {Kind: api.Get, Job: api.MaxNum}, {Kind: api.Assign, Job: api.MaxNum, Task: 15, Epoch: 9},
	{Kind: api.NoTask, Job: api.MaxNum}, {Kind: api.Cancel, Job: api.MaxNum}, {Kind: api.Have, Job: api.MaxNum, Task: 15}, {Kind: api.Done, Job: api.MaxNum, Task: 15},
	{Kind: api.Thanks, Job: api.MaxNum, Task: 15}, {Kind: api.Mine, Job: api.MaxNum, Epoch: 9}, {Kind: api.Beat},
}

func TestCheck(t *testing.T) {
	for _, m := range full {
		if !Check(m) {
			t.Error(m)
		}
		for field, values := range map[*int][]int{
			&m.Job:   {-1, m.Job + 1, math.MinInt},
			&m.Task:  {-1, m.Task + 1, math.MaxInt},
			&m.Epoch: {-1, m.Epoch + 1, math.MinInt},
		} {
			old := *field
			for _, v := range values {
				*field = v
				if Check(m) || Bytes(m) != "" {
					t.Error(m)
				}
			}
			*field = old
		}
		if m.Job != 0 {
			n := m
			n.Job = 0
			if Check(n) {
				t.Error(n)
			}
		}
		if m.Epoch != 0 {
			n := m
			n.Epoch = 0
			if Check(n) {
				t.Error(n)
			}
		}
	}
	for _, kind := range []int{0, -1, 12, math.MinInt, math.MaxInt} {
		if Check(api.Msg{Kind: kind}) || Check(api.Msg{Kind: kind, Job: 1}) || Check(api.Msg{Kind: kind, Job: 1, Epoch: 1}) {
			t.Error(kind)
		}
	}
}

func TestBytes(t *testing.T) {
	for _, c := range []struct {
		m    api.Msg
		want string
	}{
		{api.Msg{Kind: api.Assign, Job: 5, Task: 2, Epoch: 1}, "\x04\x05\x02\x01"}, {api.Msg{Kind: api.Probe, Job: 5, Epoch: 2}, "\x01\x05\x02"},
		{api.Msg{Kind: api.Full, Job: 300}, "\x02\xf9\x01\x2c"}, {api.Msg{Kind: api.Get, Job: 5}, "\x03\x05"}, {api.Msg{Kind: api.Get, Job: 1}, "\x03\x01"}, {api.Msg{Kind: api.NoTask, Job: 5}, "\x05\x05"},
		{api.Msg{Kind: api.Cancel, Job: 5}, "\x06\x05"}, {api.Msg{Kind: api.Have, Job: 5, Task: 2}, "\x07\x05\x02"}, {api.Msg{Kind: api.Done, Job: 5}, "\x08\x05\x00"},
		{api.Msg{Kind: api.Thanks, Job: 5, Task: 15}, "\x09\x05\x0f"}, {api.Msg{Kind: api.Mine, Job: 5, Epoch: 9}, "\x0a\x05\x09"}, {api.Msg{Kind: api.Beat}, "\x0b"},
	} {
		if got := Bytes(c.m); got != c.want {
			t.Errorf("%v %q", c.m, got)
		}
		if got, e := Parse(c.want); got != c.m || e != api.OK {
			t.Error(c.m, got, e)
		}
	}
}

func TestParse(t *testing.T) {
	for _, m := range full {
		s := Bytes(m)
		if got, e := Parse(s); got != m || e != api.OK {
			t.Error(m, got, e)
		}
		for k := range s {
			if got, e := Parse(s[:k]); e != api.ErrShort || got != (api.Msg{}) {
				t.Error(m, k, e)
			}
		}
		if got, e := Parse(s + "\x00"); e != api.ErrForm || got != (api.Msg{}) {
			t.Error(m, e)
		}
	}
	for i, c := range []struct {
		s string
		e api.Errno
	}{
		{"", api.ErrShort}, {"\x00", api.ErrForm}, {"\x00\x05", api.ErrForm}, {"\x0c", api.ErrLong}, {"\xff", api.ErrForm}, {"\x03\x00", api.ErrForm}, {"\x04\x00\x63", api.ErrForm},
		{"\x04\x05\x10", api.ErrLong}, {"\x04\x05\x0f\x00", api.ErrForm}, {"\x04\x05\x0f\x0a", api.ErrLong}, {"\x01\x05\x00", api.ErrForm}, {"\x01\x05\x0a", api.ErrLong},
		{"\x0b\x00", api.ErrForm}, {"\x03\xf8\x05", api.ErrForm},
	} {
		if got, e := Parse(c.s); e != c.e || got != (api.Msg{}) {
			t.Error(i, got, e)
		}
	}
}

func TestNoPrefix(t *testing.T) {
	for a := range 12 {
		for b := range 12 {
			for c := range 3 {
				s := string([]byte{byte(a), byte(b), byte(c)})
				m, e := Parse(s)
				if e == api.OK && Bytes(m) != s {
					t.Fatal(m)
				}
				if short, e2 := Parse(s[:2]); e == api.OK && e2 == api.OK {
					t.Fatal(m, short)
				}
			}
		}
	}
	for i, m := range full {
		for k, n := range full {
			if i != k && strings.HasPrefix(Bytes(n), Bytes(m)) {
				t.Error(m, n)
			}
		}
	}
}

func TestDownAndWord(t *testing.T) {
	words := []string{"", "probe", "full", "get", "assign", "none", "cancel", "have", "done", "thanks", "mine", "beat", "", ""}
	down := []bool{false, true, false, false, true, true, true, false, false, true, true, false, false, false}
	for kind := range words {
		if Word(kind) != words[kind] || Down(kind) != down[kind] {
			t.Error(kind)
		}
	}
	for _, kind := range []int{-1, math.MinInt, math.MaxInt} {
		if Word(kind) != "" || Down(kind) {
			t.Error(kind)
		}
	}
}
