package pack

import (
	"math"
	"strings"
	"testing"

	"siskin/api"
	"siskin/crc"
	"siskin/frame"
)

var valid = []Packet{
	{Data, 0, 8, 1, 1, 1, "x"}, {Data, 71, 0, api.MaxNum, api.MaxNum, api.MaxNum, strings.Repeat("b", 32)},
	{Ack, 0, 9, 1, 2, 3, ""}, {Ack, 8, 0, 300, 1, 248, ""}, {Hello, 8, 0, 1, 2, 0, ""}, {Hello, 3, 4, 1, api.MaxNum, 0, ""},
	{Bare, 1, 2, 1, 0, 0, "\x0b"}, {Bare, 8, 2, 7, 0, 0, strings.Repeat("\x00", 32)},
}

func TestCheck(t *testing.T) {
	for _, p := range valid {
		if !Check(p) {
			t.Error(p)
		}
		for i, change := range []func(p *Packet){
			func(p *Packet) { p.Kind = 0 }, func(p *Packet) { p.Kind = 5 }, func(p *Packet) { p.Kind = -1 }, func(p *Packet) { p.From = -1 }, func(p *Packet) { p.From = 72 },
			func(p *Packet) { p.To = -1 }, func(p *Packet) { p.To = 72 }, func(p *Packet) { p.To = p.From }, func(p *Packet) { p.Inc = 0 }, func(p *Packet) { p.Inc = api.MaxNum + 1 },
			func(p *Packet) { p.Peer = -1 }, func(p *Packet) { p.Peer = api.MaxNum + 1 }, func(p *Packet) { p.Seq = -1 }, func(p *Packet) { p.Seq = math.MaxInt },
			func(p *Packet) { p.Body = strings.Repeat("b", 33) },
			func(p *Packet) { p.Peer = map[bool]int{true: 0, false: 1}[p.Kind != Bare] },
			func(p *Packet) { p.Seq = map[bool]int{true: 0, false: 1}[p.Kind <= Ack] },
			func(p *Packet) { p.Body = map[bool]string{true: "", false: "x"}[p.Kind == Data || p.Kind == Bare] },
		} {
			q := p
			change(&q)
			if Check(q) || Bytes(q) != "" {
				t.Error(p, i)
			}
		}
	}
}

func TestUnknownKinds(t *testing.T) {
	for _, kind := range []int{0, 5, -1, math.MinInt, math.MaxInt} {
		if p := (Packet{Kind: kind, From: 0, To: 8, Inc: 1}); Check(p) || Bytes(p) != "" {
			t.Error(kind)
		}
	}
}

func TestBytes(t *testing.T) {
	body := "\x06\x02\x00\x09\x01\x02\x03"
	if got := Bytes(valid[2]); got != string(crc.Seal([]byte(body))) {
		t.Errorf("%q", got)
	}
	for i, payload := range []string{"\x01\x00\x08\x01\x01\x01\x01x", "", "", "\x02\x08\x00\xf9\x01\x2c\x01\xf8\xf8", "\x03\x08\x00\x01\x02", "", "\x04\x01\x02\x01\x01\x0b"} {
		if payload != "" && Bytes(valid[i]) != string(frame.Put(nil, payload)) {
			t.Error(i)
		}
	}
}

func TestOpen(t *testing.T) {
	for _, p := range valid {
		s := Bytes(p)
		if got, e := Open(s); got != p || e != api.OK {
			t.Error(p, got, e)
		}
		for k := range s {
			if got, e := Open(s[:k]); e != api.ErrShort || got != (Packet{}) {
				t.Error(p, k, e)
			}
		}
		if _, e := Open(s + "\x00"); e != api.ErrForm {
			t.Error(p, e)
		}
	}
}

func TestOpenErrors(t *testing.T) {
	framed := func(s string) string { return string(frame.Put(nil, s)) }
	for i, c := range []struct {
		s string
		e api.Errno
	}{
		{"", api.ErrShort}, {"\xff", api.ErrForm}, {"\x00\x01\x02\x03\x04", api.ErrSum}, {"\xf9\xff\xff", api.ErrLong}, {framed("") + "x", api.ErrForm},
		{framed(""), api.ErrShort}, {framed("\x00"), api.ErrForm}, {framed("\x05"), api.ErrLong}, {framed("\x02\x48"), api.ErrLong}, {framed("\x02\x47\x48"), api.ErrLong},
		{framed("\x02\x47\x47"), api.ErrForm}, {framed("\x02\x47\x46\x00"), api.ErrForm}, {framed("\x02\x00\x08\x01\x00"), api.ErrForm}, {framed("\x02\x00\x08\x01\x01\x00"), api.ErrForm},
		{framed("\x02\x00\x08\x01\x01\x01\x00"), api.ErrForm}, {framed("\x02\x00\x08\x01\x01"), api.ErrShort}, {framed("\x01\x00\x08\x01\x01\x01"), api.ErrShort},
		{framed("\x01\x00\x08\x01\x01\x01\x00"), api.ErrForm}, {framed("\x01\x00\x08\x01\x01\x01\x21"), api.ErrLong}, {framed("\x04\x00\x08\x01\x00"), api.ErrForm},
		{framed("\x04\x00\x08\x01\x21"), api.ErrLong}, {framed("\x04\x00\x08\x01\x01xy"), api.ErrForm}, {framed("\x03\x00\x08\x01\x01\x01"), api.ErrForm},
	} {
		if got, e := Open(c.s); e != c.e || got != (Packet{}) {
			t.Error(i, got, e)
		}
	}
}

func TestFlipped(t *testing.T) {
	for _, p := range valid {
		s := Bytes(p)
		for at := 8; at < 8*len(s); at++ {
			for _, bits := range []uint32{1, 0x80000001, 0xffffffff, 0xa5a5a5a5, 3} {
				b := []byte(s)
				for j := range 32 {
					if bits>>j&1 == 1 && at+j < 8*len(b) {
						b[(at+j)/8] ^= 1 << ((at + j) % 8)
					}
				}
				if got, e := Open(string(b)); string(b) != s && e == api.OK {
					t.Fatal(p, got, at)
				}
			}
		}
	}
}
