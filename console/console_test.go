package console

import (
	"math"
	"strings"
	"testing"

	"siskin/act"
	"siskin/api"
	"siskin/cluster"
	"siskin/report"
)

const head = "cluster 1 9 3 900 4\nnames\nworker 1 1\n"

func TestSplit(t *testing.T) {
	for i, c := range []struct {
		text, head, acts string
		lines            int
		ok               bool
	}{
		{head + "acts\ntick\n", head, "tick\n", 3, true}, {"acts\n", "", "", 0, true}, {"acts\nacts\nx", "", "acts\nx", 0, true}, {"a\n\nacts\n", "a\n\n", "", 2, true},
		{"", "", "", 0, false}, {"acts", "acts", "", 0, false}, {"xacts\n", "xacts\n", "", 0, false}, {"a\nacts \nacts", "a\nacts \nacts", "", 0, false}, {"actss\nacts\nb", "actss\n", "b", 1, true},
		{"a\nb", "a\nb", "", 0, false}, {" acts\n", " acts\n", "", 0, false}, {"acts\r\n", "acts\r\n", "", 0, false},
	} {
		h, a, lines, ok := Split(c.text)
		if h != c.head || a != c.acts || lines != c.lines || ok != c.ok {
			t.Error(i, h, a, lines, ok)
		}
	}
}

func TestAnswer(t *testing.T) {
	if Answer(1, api.OK) != "1 0\n" || Answer(400, api.ErrOwner) != "400 17\n" || Answer(-1, api.Errno(math.MinInt)) != "-1 -9223372036854775808\n" {
		t.Error("answer")
	}
}

func TestRun(t *testing.T) {
	for i, c := range []struct{ acts, want string }{
		{"tick\n", "1 0\nscheduler 0 up\nworker 0 0 0 0 0\nnet 0\nleft 0\nverdict 0\n"},
		{"", "scheduler 0 up\nworker 0 0 0 0 0\nnet 0\nleft 0\nverdict 0\n"},
		{"submit 0 5 \"*\"\nsubmit 0 5 \"*\"\ndeliver 9\ncrash 0\n", "1 0\n2 9\n3 6\n4 0\nscheduler 0 down\nworker 0 0 0 0 0\njob 5 0 1 0\naccept 5 0 0\nnet 1\nleft 1\nverdict 0\n"},
	} {
		if got, line, e := Run(head + "acts\n" + c.acts); got != c.want || line != 0 || e != api.OK {
			t.Errorf("%d: %q %d %d", i, got, line, e)
		}
	}
}

func TestErrors(t *testing.T) {
	for i, c := range []struct {
		text string
		line int
		e    api.Errno
	}{
		{"", 0, api.ErrForm}, {head, 0, api.ErrForm}, {head + "acts", 0, api.ErrForm}, {"x\ny\n", 0, api.ErrForm}, {"acts\n", 1, api.ErrForm}, {"cluster 1 9 3 900 4\nacts\n", 2, api.ErrForm},
		{"cluster 1 9 3 900 4\nnames\nacts\n", 3, api.ErrForm}, {head + "x\nacts\n", 4, api.ErrForm}, {head + "acts\nx\n", 5, api.ErrForm}, {head + "acts\ntick\ntick", 6, api.ErrForm},
		{head + "acts\n" + strings.Repeat("tick\n", 401), 405, api.ErrLong}, {head + "worker 1 1\nacts\n\n", 6, api.ErrForm}, {"x\nacts\nx\n", 1, api.ErrForm},
	} {
		if got, line, e := Run(c.text); got != "" || line != c.line || e != c.e {
			t.Error(i, line, e)
		}
	}
}

const session = `cluster 3 4 2 3000 3
names arm gpu
worker 1 2 gpu
worker 2 1 arm
worker 1 1
acts
draw 12345678901
draw 3
submit 0 5 "gpu" "*" "!gpu"
submit 1 7 "gpu & arm"
submit 1 8 "arm"
fuse 3
deliver 0
deliver 0
twice 1
spoil 1 5 77
deliver 1
deliver 1
tick
deliver 0
deliver 2
finish 0 0
finish 1 0
crash 1
tick
tick
start 1
tick
deliver 1
deliver 1
tick
deliver 3
`

func TestSameAgain(t *testing.T) {
	got, _, e := Run(session)
	again, _, _ := Run(session)
	if e != api.OK || got != again {
		t.Error(e)
	}
	// The output is that of the calls one by one, and a shorter session has the same answers.
	h, acts, _, _ := Split(session)
	l, _, _ := act.Parse(acts)
	k := cluster.New(api.Conf{Scheds: 3, Lease: 4, Again: 2, Room: 3000, Out: 3, Names: []string{"arm", "gpu"}, Workers: []api.Worker{{Slots: 1, Limit: 2, Attrs: 2}, {Slots: 2, Limit: 1, Attrs: 1}, {Slots: 1, Limit: 1}}})
	answers := ""
	for n := range len(l) + 1 {
		short, _, e := Run(h + "acts\n" + act.Text(l[:n]...))
		if e != api.OK || short != answers+report.All(k) || !strings.HasPrefix(got, answers) {
			t.Fatal(n, short)
		}
		if n < len(l) {
			answers += Answer(n+1, act.Do(k, l[n]))
		}
	}
	if got != answers+report.All(k) || !strings.HasSuffix(got, "verdict 0\n") {
		t.Error(got)
	}
}
