package job

import (
	"math"
	"strings"
	"testing"

	"siskin/api"
)

var cluster = api.Conf{Names: []string{"gpu", "ssd"}, Workers: []api.Worker{{Attrs: 2}, {Attrs: 0}, {Attrs: 3}}}

func of(id int, needs ...string) api.Job { return api.Job{ID: id, Needs: needs} }

func TestCheck(t *testing.T) {
	no := api.Conf{Names: []string{"gpu"}, Workers: []api.Worker{{}}}
	for i, c := range []struct {
		c        api.Conf
		j        api.Job
		task, at int
		e        api.Errno
	}{
		{cluster, of(1, "*"), -1, 0, api.OK}, {cluster, of(api.MaxNum, "gpu", "!ssd"), -1, 0, api.OK}, {cluster, of(0, "*"), -1, 0, api.ErrArg},
		{cluster, of(-1), -1, 0, api.ErrArg}, {cluster, of(api.MaxNum+1, "*"), -1, 0, api.ErrArg}, {cluster, of(math.MinInt), -1, 0, api.ErrArg},
		{cluster, of(1), -1, 0, api.ErrEmpty}, {cluster, of(1, strings.Split(strings.Repeat("*,", 16)+"?", ",")...), -1, 0, api.ErrLong},
		{cluster, of(1, strings.Split(strings.Repeat("*,", 15)+"*", ",")...), -1, 0, api.OK}, {cluster, of(1, "*", "gpu |"), 1, 5, api.ErrForm},
		{cluster, of(1, "*", "gpu | tpu"), 1, 6, api.ErrName}, {cluster, of(1, "gpu & !ssd", "?"), 0, 0, api.ErrWorker}, {cluster, of(1, "?", "gpu & !ssd"), 0, 0, api.ErrForm},
		{cluster, of(1, "*", strings.Repeat("!", 8)+"*"), 1, 0, api.ErrLong}, {cluster, of(1, strings.Repeat("a", 201)), 0, 0, api.ErrLong},
		{no, of(1, "*", "gpu"), 1, 0, api.ErrWorker}, {api.Conf{}, of(1, "*"), 0, 0, api.ErrWorker},
	} {
		if task, at, e := Check(c.c, c.j); task != c.task || at != c.at || e != c.e {
			t.Error(i, task, at, e)
		}
	}
}

func TestSets(t *testing.T) {
	for text, want := range map[string]uint64{"*": 7, "gpu": 4, "ssd": 5, "!ssd": 2, "gpu & !ssd": 0, "tpu": 0, "": 0, "gpu |": 0} {
		if got := Set(cluster, text); got != want {
			t.Error(text, got)
		}
	}
	if Any(cluster) != 0 || Any(cluster, "gpu", "?", "!ssd") != 6 || Any(cluster, "tpu") != 0 {
		t.Error("any")
	}
	many := api.Conf{Workers: make([]api.Worker, 70)}
	if Set(many, "*") != ^uint64(0) {
		t.Error("64")
	}
}

func TestBytes(t *testing.T) {
	if got := string(Bytes(of(300, "*", "gpu"))); got != "\xf9\x01\x2c\x02\x01*\x03gpu" {
		t.Errorf("%q", got)
	}
	if got := string(Bytes(of(5))); got != "\x05\x00" {
		t.Errorf("%q", got)
	}
	for i, j := range []api.Job{of(0), of(-1, "*"), of(api.MaxNum + 1), {ID: 1, Needs: make([]string, 17)}, of(1, strings.Repeat("a", 201))} {
		if Bytes(j) != nil {
			t.Error(i)
		}
	}
}

func TestRoundTrip(t *testing.T) {
	for i, j := range []api.Job{of(1), of(api.MaxNum, "", "\xff\x00", strings.Repeat("a", 200)), {ID: 7, Needs: make([]string, 16)}} {
		b := Bytes(j)
		if got, e := Parse(b); !Same(got, j) || e != api.OK {
			t.Error(i, got, e)
		}
		for k := range b {
			if got, e := Parse(b[:k]); e != api.ErrShort || !Same(got, api.Job{}) {
				t.Error(i, k, e)
			}
		}
		if _, e := Parse(append(b, 0)); e != api.ErrForm {
			t.Error(i, e)
		}
	}
}

func TestParseErrors(t *testing.T) {
	for i, c := range []struct {
		b []byte
		e api.Errno
	}{
		{nil, api.ErrShort}, {[]byte{0}, api.ErrForm}, {[]byte{0, 17}, api.ErrForm}, {[]byte{255}, api.ErrForm}, {[]byte{1}, api.ErrShort}, {[]byte{1, 17}, api.ErrLong},
		{[]byte{1, 1, 201}, api.ErrLong}, {[]byte{1, 1, 2, 'a'}, api.ErrShort}, {[]byte{1, 0, 0}, api.ErrForm}, {[]byte{1, 2, 201, 255}, api.ErrLong},
		{[]byte{248, 7}, api.ErrForm},
	} {
		if got, e := Parse(c.b); e != c.e || got.ID != 0 || got.Needs != nil {
			t.Error(i, got, e)
		}
	}
}

func TestSame(t *testing.T) {
	if !Same(of(1), api.Job{ID: 1, Needs: []string{}}) || Same(of(1), of(2)) || Same(of(1, "a"), of(1, "b")) || Same(of(1, "a"), of(1)) || !Same(of(1, "a"), of(1, "a")) {
		t.Error("same")
	}
}
