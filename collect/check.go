package collect

import (
	"math"
	"slices"

	"penstock/api"
	"penstock/batch"
	"penstock/export"
	"penstock/fail"
	"penstock/graph"
	"penstock/pdata"
	"penstock/server"
)

// checked is the rules of c's config, if c is right.
func checked(c api.Collector) (rules, api.Errno) {
	var known rules
	why := fail.Caught(func() {
		fail.On(graph.Check(c.Config))
		known = read(c.Config)
	})
	if why != api.OK || !isRight(c, known) {
		return rules{}, api.ErrState
	}
	return known, api.OK
}

func isRight(c api.Collector, known rules) bool {
	return server.Check(api.Conn{}, c.Rules) == api.OK && isLimit(c.Limit) && areLines(c) && areSlots(c, known) && areExporters(c, known)
}

func isLimit(n int) bool {
	return n >= 0 && n <= math.MaxInt32
}

func areLines(c api.Collector) bool {
	ahead := 0
	for _, l := range c.Lines {
		if l.Id <= ahead || l.Id > c.Last || !isReceiver(c.Config, l.Receiver) || server.Check(l.Conn, c.Rules) != api.OK {
			return false
		}
		ahead = l.Id
	}
	return true
}

func isReceiver(c api.Config, name string) bool {
	return slices.ContainsFunc(c.Receivers, func(x api.Comp) bool { return x.Name == name })
}

func areSlots(c api.Collector, known rules) bool {
	want := known.slots(c.Config)
	if len(c.Slots) != len(want) {
		return false
	}
	for i, s := range c.Slots {
		if s.Pipe != want[i].Pipe || s.Proc != want[i].Proc || !isBatch(c, known, s) {
			return false
		}
	}
	return true
}

// isBatch tells whether the slot, which is one of the config's, may hold what it holds.
func isBatch(c api.Collector, known rules, s api.Slot) bool {
	d := s.Batch.Held
	isOf := pdata.Items(d) == 0 || d.Signal == c.Config.Pipes[s.Pipe].Signal
	return isOf && batch.Check(s.Batch, known.batchOf(c.Config, s)) == api.OK
}

func areExporters(c api.Collector, known rules) bool {
	if len(c.Exporters) != len(known.exports) {
		return false
	}
	for i, e := range c.Exporters {
		if export.Check(e, known.exports[i]) != api.OK {
			return false
		}
	}
	return true
}

// held is how many items there are in all slots, and all exporters.
func held(c api.Collector) uint64 {
	n := inSlots(c)
	for _, e := range c.Exporters {
		n += export.Held(e)
	}
	return n
}

func inSlots(c api.Collector) uint64 {
	n := 0
	for _, s := range c.Slots {
		n += pdata.Items(s.Batch.Held)
	}
	return uint64(n)
}
