package report

import (
	"strings"
	"testing"

	"siskin/api"
	"siskin/cluster"
)

func cluster3() api.Conf {
	return api.Conf{Scheds: 2, Lease: 9, Again: 3, Room: 2000, Out: 4, Names: []string{"gpu"}, Workers: []api.Worker{{Slots: 1, Limit: 2, Attrs: 1}, {Slots: 1, Limit: 1}}}
}

func TestParts(t *testing.T) {
	if got := Jobs(api.Entry{ID: 5, Epoch: 1, Needs: []string{"*"}, Bound: []int{0}, Done: []bool{false}},
		api.Entry{ID: 300, Sched: 2, Epoch: 9, Needs: make([]string, 3), Bound: []int{1, 0, 2}, Done: []bool{false, false, true}}, api.Entry{ID: -1}); got != "job 5 0 1 0\njob 300 2 9 1 0 2\njob -1 0 0\n" {
		t.Errorf("%q", got)
	}
	if got := Events(api.Event{Kind: api.Accepted, Job: 5}, api.Event{Kind: api.Finished, Job: 5, Task: 1, Worker: 2}, api.Event{}); got != "accept 5 0 0\nfinish 5 1 2\nevent 0 0 0\n" {
		t.Errorf("%q", got)
	}
	if Jobs() != "" || Events() != "" {
		t.Error("nothing")
	}
}

func TestAll(t *testing.T) {
	k := cluster.New(cluster3())
	k.Submit(0, api.Job{ID: 5, Needs: []string{"gpu", "gpu"}})
	if got := All(k); got != "scheduler 0 up\nscheduler 1 up\nworker 0 0 0 0 0\nworker 1 0 0 0 0\njob 5 0 1 0 0\naccept 5 0 0\nnet 1\nleft 2\nverdict 0\n" {
		t.Errorf("%q", got)
	}
	k.Deliver(0)
	k.Crash(1)
	k.Submit(0, api.Job{ID: 6, Needs: []string{"gpu"}})
	k.Deliver(0)
	k.Deliver(1)
	if got := Heads(k); got != "scheduler 0 up\nscheduler 1 down\n" {
		t.Errorf("%q", got)
	}
	if got := Hands(k); got != "worker 0 1 1 0 0\nworker 1 0 0 0 0\n" {
		t.Errorf("%q", got)
	}
	for range 20 {
		k.Deliver(0)
	}
	got := All(k)
	want := "scheduler 0 up\nscheduler 1 down\nworker 0 1 0 0 1\nworker 1 0 0 0 0\njob 5 0 1 1 0\njob 6 0 1 0\naccept 5 0 0\naccept 6 0 0\nlaunch 5 0 0\nnet 0\nleft 2\nverdict 0\n"
	if got != want {
		t.Errorf("%q", got)
	}
	if !strings.HasPrefix(got, Heads(k)+Hands(k)) || strings.Count(got, "accept")+strings.Count(got, "launch")+strings.Count(got, "finish") != len(k.Events()) {
		t.Error("parts")
	}
}

func TestNil(t *testing.T) {
	if Heads(nil) != "" || Hands(nil) != "" || All(nil) != "" {
		t.Error("nil")
	}
}
