package collect

import (
	"penstock/api"
	"penstock/attrs"
	"penstock/batch"
	"penstock/export"
	"penstock/fail"
	"penstock/filter"
	"penstock/graph"
)

// The kinds of processors.
const (
	ofAttrs  = "attributes"
	ofFilter = "filter"
	ofBatch  = "batch"
)

// proc is a processor: its kind, and the rules that its node says.
type proc struct {
	kind    string
	actions api.Attrs
	drop    []api.PredStep
	batch   api.BatchRules
}

// rules are what the nodes of a config say.
type rules struct {
	procs   map[string]proc
	exports []api.ExportRules
}

// read is the rules of a right config; it panics with the first error of a node.
func read(c api.Config) rules {
	r := rules{procs: map[string]proc{}}
	for _, x := range c.Procs {
		r.procs[x.Name] = readProc(x)
	}
	for _, x := range c.Exporters {
		one, why := export.Read(x.Node)
		fail.On(why)
		r.exports = append(r.exports, one)
	}
	return r
}

func readProc(x api.Comp) proc {
	p := proc{kind: x.Kind}
	var why api.Errno
	switch x.Kind {
	case ofAttrs:
		p.actions, why = attrs.Read(x.Node)
	case ofFilter:
		p.drop, why = filter.Read(x.Node)
	case ofBatch:
		p.batch, why = batch.Read(x.Node)
	}
	fail.On(why)
	return p
}

// slots are those of c, without anything.
func (r rules) slots(c api.Config) []api.Slot {
	order, why := graph.Order(c)
	fail.On(why)
	var l []api.Slot
	for _, pipe := range order {
		for at, name := range c.Pipes[pipe].Procs {
			if r.procs[name].kind == ofBatch {
				l = append(l, api.Slot{Pipe: pipe, Proc: at})
			}
		}
	}
	return l
}

// open is the exporters of the disks; there are as many.
func (r rules) open(disks []api.Disk) []api.Exporter {
	var l []api.Exporter
	for i, d := range disks {
		e, why := export.Open(d, r.exports[i])
		fail.On(why)
		l = append(l, e)
	}
	return l
}

// batchOf is the rules of the slot's processor.
func (r rules) batchOf(c api.Config, s api.Slot) api.BatchRules {
	return r.procs[c.Pipes[s.Pipe].Procs[s.Proc]].batch
}
