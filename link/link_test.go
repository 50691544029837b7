package link

import (
	"math/rand"
	"slices"
	"strconv"
	"strings"
	"testing"

	"siskin/api"
	"siskin/pace"
	"siskin/pack"
	"siskin/seen"
	"siskin/sent"
)

func data(from, to, inc, peer, seq int, body string) pack.Packet {
	return pack.Packet{Kind: pack.Data, From: from, To: to, Inc: inc, Peer: peer, Seq: seq, Body: body}
}

func ack(from, to, inc, peer, seq int) pack.Packet {
	return pack.Packet{Kind: pack.Ack, From: from, To: to, Inc: inc, Peer: peer, Seq: seq}
}

func hello(from, to, inc, peer int) pack.Packet {
	return pack.Packet{Kind: pack.Hello, From: from, To: to, Inc: inc, Peer: peer}
}

// busy is an end of node 0, incarnation 2, that knows incarnation 3 of node 8, with the texts a and b waiting.
func busy() End {
	return End{0, 8, 2, sent.Out{Peer: 3, Seq: 5, Texts: []string{"a", "b"}, Pace: pace.Pace{Wait: 8, Left: 4}}, seen.In{Me: 2, Peer: 3, Last: 7}}
}

// changed is busy with other fields.
func changed(peer, seq, wait, left, gate, last int, texts ...string) End {
	e := busy()
	e.Out = sent.Out{Peer: peer, Seq: seq, Texts: texts, Pace: pace.Pace{Wait: wait, Left: left}}
	e.In.Peer, e.In.Last = gate, last
	return e
}

func TestNewAndPut(t *testing.T) {
	e := New(0, 8, 2)
	if !Same(e, End{0, 8, 2, sent.New(), seen.New(2)}) {
		t.Error(e)
	}
	long := strings.Repeat("x", 32)
	for i, c := range []struct {
		e     End
		bound int
		text  string
		want  End
		l     []pack.Packet
		err   api.Errno
	}{
		{busy(), 9, "", busy(), nil, api.ErrArg}, {busy(), 9, long + "x", busy(), nil, api.ErrArg}, {busy(), 2, "c", busy(), nil, api.ErrFull}, {busy(), 0, "b", busy(), nil, api.OK},
		{busy(), 3, "c", changed(3, 5, 8, 4, 3, 7, "a", "b", "c"), nil, api.OK}, {changed(3, 5, 8, 0, 3, 7), 1, long, changed(3, 5, 1, 1, 3, 7, long), []pack.Packet{data(0, 8, 2, 3, 5, long)}, api.OK},
	} {
		if got, l, err := Put(c.e, c.bound, c.text); !Same(got, c.want) || !slices.Equal(l, c.l) || err != c.err {
			t.Error(i, got, l, err)
		}
	}
}

func TestTake(t *testing.T) {
	first := data(0, 8, 2, 4, 1, "a") // what is sent on learning incarnation 4
	again := changed(4, 1, 1, 1, 4, 0, "a", "b")
	for i, c := range []struct {
		p    pack.Packet
		want End
		text string
		got  bool
		l    []pack.Packet
	}{
		{pack.Packet{}, busy(), "", false, nil}, {data(8, 1, 3, 2, 8, "x"), busy(), "", false, nil}, {data(9, 0, 3, 2, 8, "x"), busy(), "", false, nil},
		{data(8, 0, 3, 2, 8, ""), busy(), "", false, nil}, {data(8, 0, 2, 2, 8, "x"), busy(), "", false, nil}, {data(0, 8, 3, 2, 8, "x"), busy(), "", false, nil},
		{data(8, 0, 3, 2, 8, "x"), changed(3, 5, 8, 4, 3, 8, "a", "b"), "x", true, []pack.Packet{ack(0, 8, 2, 3, 8)}},
		{data(8, 0, 3, 2, 7, "x"), busy(), "", false, []pack.Packet{ack(0, 8, 2, 3, 7)}}, {data(8, 0, 3, 2, 9, "x"), busy(), "", false, nil},
		{data(8, 0, 3, 1, 8, "x"), busy(), "", false, []pack.Packet{hello(0, 8, 2, 3)}}, {data(8, 0, 3, 3, 8, "x"), busy(), "", false, nil},
		{data(8, 0, 4, 2, 1, "x"), changed(4, 1, 1, 1, 4, 1, "a", "b"), "x", true, []pack.Packet{first, ack(0, 8, 2, 4, 1)}},
		{data(8, 0, 4, 1, 1, "x"), again, "", false, []pack.Packet{first, hello(0, 8, 2, 4)}}, {data(8, 0, 4, 2, 2, "x"), again, "", false, []pack.Packet{first}},
		{data(8, 0, 4, 3, 1, "x"), again, "", false, []pack.Packet{first}},
		{ack(8, 0, 3, 2, 5), changed(3, 6, 1, 1, 3, 7, "b"), "", false, []pack.Packet{data(0, 8, 2, 3, 6, "b")}}, {ack(8, 0, 3, 2, 4), busy(), "", false, nil},
		{ack(8, 0, 3, 1, 5), busy(), "", false, nil}, {ack(8, 0, 3, 3, 5), busy(), "", false, nil}, {ack(8, 0, 2, 2, 5), busy(), "", false, nil}, {ack(8, 0, 4, 1, 5), busy(), "", false, nil},
		{ack(8, 0, 4, 2, 5), again, "", false, []pack.Packet{first}}, {ack(8, 0, 4, 2, 1), changed(4, 2, 1, 1, 4, 0, "b"), "", false, []pack.Packet{first, data(0, 8, 2, 4, 2, "b")}},
		{hello(8, 0, 4, 2), again, "", false, []pack.Packet{first}}, {hello(8, 0, 4, 1), again, "", false, []pack.Packet{first}}, {hello(8, 0, 4, 3), busy(), "", false, nil},
		{hello(8, 0, 3, 2), busy(), "", false, nil}, {hello(8, 0, 2, 2), busy(), "", false, nil},
		{pack.Packet{Kind: pack.Bare, From: 8, Inc: 3, Body: "y"}, busy(), "y", true, nil}, {pack.Packet{Kind: pack.Bare, From: 8, Inc: 9, Body: "y"}, busy(), "y", true, nil},
		{pack.Packet{Kind: pack.Bare, From: 8, Inc: 2, Body: "y"}, busy(), "", false, nil},
	} {
		x, text, got, l := Take(busy(), c.p)
		if !Same(x, c.want) || text != c.text || got != c.got || !slices.Equal(l, c.l) {
			t.Error(i, x, text, got, l)
		}
	}
}

func TestTick(t *testing.T) {
	e, l := Tick(changed(3, 5, 8, 1, 3, 7, "a", "b"))
	if !Same(e, changed(3, 5, 8, 8, 3, 7, "a", "b")) || !slices.Equal(l, []pack.Packet{data(0, 8, 2, 3, 5, "a")}) {
		t.Error(e, l)
	}
	if e, l := Tick(busy()); !Same(e, changed(3, 5, 8, 3, 3, 7, "a", "b")) || len(l) != 0 {
		t.Error(e, l)
	}
	if e, l := Tick(New(0, 8, 1)); !Same(e, New(0, 8, 1)) || len(l) != 0 {
		t.Error(e, l)
	}
}

func TestSame(t *testing.T) {
	for i, change := range []func(e *End){func(e *End) { e.From++ }, func(e *End) { e.To++ }, func(e *End) { e.Inc++ }, func(e *End) { e.Out.Seq++ }, func(e *End) { e.In.Last++ }} {
		e := busy()
		change(&e)
		if Same(e, busy()) || !Same(e, e) {
			t.Error(i)
		}
	}
}

func TestMemory(t *testing.T) {
	e := busy()
	put := func(bound int, text string) End { x, _, _ := Put(e, bound, text); return x }
	take := func(p pack.Packet) End { x, _, _, _ := Take(e, p); return x }
	ticked, _ := Tick(e)
	for i, x := range []End{put(9, "c"), put(9, strings.Repeat("x", 33)), put(9, ""), put(1, "c"), put(9, "a"), take(pack.Packet{}), take(hello(8, 0, 4, 2)), take(ack(8, 0, 3, 2, 5)),
		take(data(8, 0, 3, 2, 8, "x")), take(hello(8, 0, 3, 9)), ticked} {
		x.Out.Texts[0] = "z"
		if !Same(e, busy()) {
			t.Fatal(i)
		}
	}
}

// wire carries the packets between two ends.
type wire struct {
	ends [2]End
	air  []pack.Packet
	came [2][]string
}

func (w *wire) put(k int, text string) bool {
	e, l, err := Put(w.ends[k], 99, text)
	w.ends[k] = e
	w.air = append(w.air, l...)
	return err == api.OK
}

func (w *wire) tick() {
	for k := range w.ends {
		e, l := Tick(w.ends[k])
		w.ends[k] = e
		w.air = append(w.air, l...)
	}
}

func (w *wire) deliver(p pack.Packet) {
	k := p.To / 8
	e, text, got, l := Take(w.ends[k], p)
	w.ends[k] = e
	w.air = append(w.air, l...)
	if got {
		w.came[k] = append(w.came[k], text)
	}
}

func (w *wire) round() {
	air := w.air
	w.air = nil
	for _, p := range air {
		w.deliver(p)
	}
	w.tick()
}

func TestOnceAndInOrder(t *testing.T) {
	r := rand.New(rand.NewSource(7))
	for range 200 {
		w := &wire{ends: [2]End{New(0, 8, 1), New(8, 0, 1)}}
		var put [2][]string
		for step := range 150 {
			switch k := r.Intn(2); r.Intn(6) {
			case 0:
				text := "t" + strconv.Itoa(step)
				if w.put(k, text) {
					put[k] = append(put[k], text)
				}
			case 1:
				w.tick()
			default:
				if len(w.air) == 0 {
					continue
				}
				i := r.Intn(len(w.air))
				p := w.air[i]
				if r.Intn(4) > 0 {
					w.air = slices.Delete(w.air, i, i+1)
				}
				if r.Intn(4) > 0 {
					w.deliver(p)
				}
			}
			for k := range 2 {
				if n := len(w.came[1-k]); n > len(put[k]) || !slices.Equal(w.came[1-k], put[k][:n]) {
					t.Fatal(put[k], w.came[1-k])
				}
			}
		}
		for range len(put[0]) + len(put[1]) + api.MaxWait + 2 {
			w.round()
		}
		for k := range 2 {
			if !slices.Equal(w.came[1-k], put[k]) || len(w.ends[k].Out.Texts) > 0 {
				t.Fatal("delivery", put[k], w.came[1-k])
			}
		}
	}
}

func TestRestart(t *testing.T) {
	w := &wire{ends: [2]End{New(0, 8, 1), New(8, 0, 1)}}
	w.put(0, "a")
	for range 3 {
		w.round()
	}
	w.put(0, "b")
	w.put(0, "c")
	w.put(0, "d")
	w.round()
	w.air = nil
	w.ends[1] = New(8, 0, 2)
	w.came[1] = nil
	for range 20 {
		w.round()
	}
	if !slices.Equal(w.came[1], []string{"c", "d"}) && !slices.Equal(w.came[1], []string{"b", "c", "d"}) || len(w.ends[0].Out.Texts) > 0 {
		t.Error(w.came[1], w.ends[0].Out.Texts)
	}
}
