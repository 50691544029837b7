package conf

import (
	"math"
	"strings"
	"testing"

	"siskin/api"
)

func good() api.Conf {
	return api.Conf{Scheds: 2, Lease: 9, Again: 3, Room: 500, Out: 4, Names: []string{"arm", "gpu"},
		Workers: []api.Worker{{Slots: 1, Limit: 2}, {Slots: 3, Limit: 1, Attrs: 3}, {Slots: 255, Limit: 64, Attrs: 2}}}
}

const goodText = "cluster 2 9 3 500 4\nnames arm gpu\nworker 1 2\nworker 3 1 arm gpu\nworker 255 64 gpu\n"

func TestCheck(t *testing.T) {
	for i, c := range []struct {
		change func(c *api.Conf)
		e      api.Errno
	}{
		{func(c *api.Conf) {}, api.OK},
		{func(c *api.Conf) { c.Scheds = 0 }, api.ErrArg}, {func(c *api.Conf) { c.Scheds = 9 }, api.ErrArg}, {func(c *api.Conf) { c.Scheds = 8 }, api.OK},
		{func(c *api.Conf) { c.Lease = 0 }, api.ErrArg}, {func(c *api.Conf) { c.Lease = 1001 }, api.ErrArg}, {func(c *api.Conf) { c.Lease = 1000 }, api.OK},
		{func(c *api.Conf) { c.Again = 0 }, api.ErrArg}, {func(c *api.Conf) { c.Again = 1001 }, api.ErrArg}, {func(c *api.Conf) { c.Again = 1 }, api.OK},
		{func(c *api.Conf) { c.Room = -1 }, api.ErrArg}, {func(c *api.Conf) { c.Room = 65537 }, api.ErrArg}, {func(c *api.Conf) { c.Room = 0 }, api.OK},
		{func(c *api.Conf) { c.Room = 65536 }, api.OK}, {func(c *api.Conf) { c.Out = 0 }, api.ErrArg}, {func(c *api.Conf) { c.Out = 17 }, api.ErrArg},
		{func(c *api.Conf) { c.Out = 16 }, api.OK}, {func(c *api.Conf) { c.Names = []string{"arm", "2"} }, api.ErrName},
		{func(c *api.Conf) { c.Names = []string{"b", "a"} }, api.ErrArg}, {func(c *api.Conf) { c.Names = []string{"2"}; c.Out = 0 }, api.ErrArg},
		{func(c *api.Conf) { c.Names = []string{"2"}; c.Workers = nil }, api.ErrName}, {func(c *api.Conf) { c.Workers = nil }, api.ErrArg},
		{func(c *api.Conf) { c.Names = nil }, api.ErrArg}, {func(c *api.Conf) { c.Workers[1].Attrs = 4 }, api.ErrArg},
		{func(c *api.Conf) { c.Workers[1].Attrs = 1 << 63 }, api.ErrArg}, {func(c *api.Conf) { c.Workers[2].Slots = 256 }, api.ErrArg},
		{func(c *api.Conf) { c.Workers[2].Slots = 0 }, api.ErrArg}, {func(c *api.Conf) { c.Workers[2].Limit = 0 }, api.ErrArg},
		{func(c *api.Conf) { c.Workers[2].Limit = 65 }, api.ErrArg}, {func(c *api.Conf) { c.Workers[0].Limit = math.MinInt }, api.ErrArg},
		{func(c *api.Conf) { c.Workers = make([]api.Worker, 65) }, api.ErrArg},
		{func(c *api.Conf) {
			for range 61 {
				c.Workers = append(c.Workers, c.Workers[0])
			}
		}, api.OK},
		{func(c *api.Conf) {
			for range 62 {
				c.Workers = append(c.Workers, c.Workers[0])
			}
		}, api.ErrArg},
	} {
		x := good()
		c.change(&x)
		if e := Check(x); e != c.e {
			t.Error(i, e)
		}
		if c.e != api.OK && Text(x) != "" {
			t.Error(i, "text")
		}
		if c.e == api.OK {
			if y, line, e := Read(Text(x)); !Same(x, y) || line != 0 || e != api.OK {
				t.Error(i, line, e)
			}
		}
	}
}

func TestText(t *testing.T) {
	if got := Text(good()); got != goodText {
		t.Errorf("%q", got)
	}
	c := api.Conf{Scheds: 1, Lease: 1, Again: 1, Out: 1, Workers: []api.Worker{{Slots: 1, Limit: 1}}}
	if got := Text(c); got != "cluster 1 1 1 0 1\nnames\nworker 1 1\n" {
		t.Errorf("%q", got)
	}
}

func TestRead(t *testing.T) {
	head := "cluster 2 9 3 500 4\nnames arm gpu\n"
	for _, c := range []struct {
		s    string
		line int
	}{
		{"", 1}, {"cluster 2 9 3 500 4", 1}, {"\n", 1}, {"names\n", 1}, {"cluster 2 9 3 500\n", 1}, {"cluster 2 9 3 500 4 1\n", 1}, {"cluster  2 9 3 500 4\n", 1},
		{"cluster 2 9 3 500 4 \n", 1}, {"cluster 02 9 3 500 4\n", 1}, {"cluster 9 9 3 500 4\n", 1}, {"cluster 2 9 3 -0 4\n", 1}, {"cluster 2 9 3 x 4\n", 1}, {"Cluster 2 9 3 500 4\n", 1},
		{"cluster 2 9 3 500 4\n", 2}, {"cluster 2 9 3 500 4\nnames arm", 2}, {"cluster 2 9 3 500 4\nnames \n", 2}, {"cluster 2 9 3 500 4\nnames gpu arm\n", 2},
		{"cluster 2 9 3 500 4\nnames 2\n", 2}, {"cluster 2 9 3 500 4\nname arm\n", 2}, {"cluster 2 9 3 500 4\n\n", 2}, {"cluster 2 9 3 500 4\r\n", 1},
		{head, 3}, {head + "worker 1 2", 3}, {head + "worker 1\n", 3}, {head + "worker 0 2\n", 3}, {head + "worker 1 65\n", 3}, {head + "worker 1 2 tpu\n", 3},
		{head + "worker 1 2 gpu arm\n", 3}, {head + "worker 1 2 gpu gpu\n", 3}, {head + "worker 1 2 \n", 3}, {head + "worker 1 2\n\n", 4},
		{head + "worker 1 2\nworker 1 2", 4}, {head + "worker 1 2\nx", 4}, {head + "worker +1 2\n", 3}, {head + "workers 1 2\n", 3},
		{head + strings.Repeat("worker 1 2 gpu\n", 64), 0}, {head + strings.Repeat("worker 1 2 gpu\n", 65), 67}, {head + strings.Repeat("worker 1 2 gpu\n", 64) + "x", 67},
		{head + "worker 1 2\nx\nworker 0\n", 4}, {goodText, 0},
	} {
		x, line, e := Read(c.s)
		if c.line == 0 {
			if line != 0 || e != api.OK || Text(x) != c.s {
				t.Errorf("%q: %d %d", c.s, line, e)
			}
		} else if line != c.line || e != api.ErrForm || !Same(x, api.Conf{}) {
			t.Errorf("%q: %d %d", c.s, line, e)
		}
	}
	if x, _, _ := Read(goodText); !Same(x, good()) {
		t.Error(x)
	}
}

func TestNumbers(t *testing.T) {
	for n, want := range map[int]string{0: "0", 7: "7", -7: "-7", math.MaxInt: "9223372036854775807", math.MinInt: "-9223372036854775808"} {
		if Number(n) != want {
			t.Error(n)
		}
	}
	for _, n := range []int{0, 1, 10, 99, api.MaxNum} {
		if got, ok := Digits(Number(n)); got != n || !ok {
			t.Error(n)
		}
	}
	for _, s := range []string{"", "00", "01", "-1", "+1", " 1", "1 ", "1_0", "a", "٣", "72057594037927936", "99999999999999999", "100000000000000000000000", "18446744073709551616"} {
		if got, ok := Digits(s); got != 0 || ok {
			t.Error(s)
		}
	}
}

func TestSame(t *testing.T) {
	a := good()
	if !Same(a, good()) || !Same(api.Conf{}, api.Conf{Names: []string{}, Workers: []api.Worker{}}) {
		t.Error("equal ones")
	}
	for i, change := range []func(c *api.Conf){
		func(c *api.Conf) { c.Scheds++ }, func(c *api.Conf) { c.Lease++ }, func(c *api.Conf) { c.Again++ }, func(c *api.Conf) { c.Room++ },
		func(c *api.Conf) { c.Out++ }, func(c *api.Conf) { c.Names[0] = "b" }, func(c *api.Conf) { c.Workers[2].Attrs = 0 }, func(c *api.Conf) { c.Workers = c.Workers[1:] },
	} {
		b := good()
		change(&b)
		if Same(a, b) {
			t.Error(i)
		}
	}
}
