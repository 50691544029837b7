package cluster

import (
	"slices"

	"siskin/api"
	"siskin/net"
	"siskin/port"
	"siskin/worker"
)

// Conf returns the configuration.
func (k *Cluster) Conf() api.Conf {
	if k == nil {
		return api.Conf{}
	}
	return copied(k.conf)
}

// Up reports whether there is such a scheduler and it is up.
func (k *Cluster) Up(sched int) bool {
	return k.find(sched) == api.OK && k.chiefs[sched].boss != nil
}

// Book returns the book of the ledger.
func (k *Cluster) Book() []api.Entry {
	if k == nil {
		return nil
	}
	return k.ledger.Book()
}

// Jobs returns the accepted jobs in order.
func (k *Cluster) Jobs() []api.Job {
	if k == nil {
		return nil
	}
	var l []api.Job
	for _, j := range k.jobs {
		l = append(l, copiedJob(j))
	}
	return l
}

// Events returns what has happened.
func (k *Cluster) Events() []api.Event {
	if k == nil {
		return nil
	}
	return slices.Clone(k.events)
}

// Net returns what is in transit.
func (k *Cluster) Net() []net.Thing {
	if k == nil {
		return nil
	}
	return k.net.List()
}

// Worker returns a clone of a worker.
func (k *Cluster) Worker(i int) *worker.Worker {
	if k == nil || i < 0 || i >= len(k.mates) {
		return nil
	}
	return k.mates[i].worker.Clone()
}

// Waits returns how many texts for a node wait at the port of another one.
func (k *Cluster) Waits(node, to int) int {
	return k.portOf(node).Waits(to)
}

// portOf returns the port of a node, or nil if it has none.
func (k *Cluster) portOf(node int) *port.Port {
	if k == nil {
		return nil
	}
	if k.find(node) == api.OK {
		return k.chiefs[node].port
	}
	if w := node - api.MaxScheds; node >= api.MaxScheds && w < len(k.mates) {
		return k.mates[w].port
	}
	return nil
}
