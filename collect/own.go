package collect

import (
	"slices"

	"penstock/api"
	"penstock/pdata"
)

// each is what is made of each element of l, in a list of its own.
func each[T any](l []T, made func(T) T) []T {
	var out []T
	for _, x := range l {
		out = append(out, made(x))
	}
	return out
}

// own is c, which is right, with lists of its own.
func own(c api.Collector) api.Collector {
	c.Config = ownConfig(c.Config)
	c.Lines = slices.Clone(c.Lines)
	c.Slots = each(c.Slots, ownSlot)
	c.Exporters = each(c.Exporters, ownExporter)
	return c
}

func ownConfig(c api.Config) api.Config {
	for _, l := range []*[]api.Comp{&c.Receivers, &c.Procs, &c.Conns, &c.Exporters} {
		*l = each(*l, ownComp)
	}
	c.Pipes = each(c.Pipes, ownPipe)
	return c
}

func ownComp(x api.Comp) api.Comp {
	x.Node = ownNode(x.Node)
	return x
}

func ownNode(n api.Node) api.Node {
	n.List = slices.Clone(n.List)
	n.Keys = each(n.Keys, func(k api.Keyed) api.Keyed { return api.Keyed{Key: k.Key, Node: ownNode(k.Node)} })
	return n
}

func ownPipe(p api.Pipe) api.Pipe {
	for _, l := range []*[]string{&p.Receivers, &p.Procs, &p.Exporters} {
		*l = slices.Clone(*l)
	}
	return p
}

func ownSlot(s api.Slot) api.Slot {
	d := &s.Batch.Held
	if len(d.Groups) == 0 {
		d.Groups = nil
		return s
	}
	*d, _ = pdata.Tidy(*d) // it is tidy, so that this is itself
	return s
}

func ownExporter(e api.Exporter) api.Exporter {
	e.Queue.Log.Disk.Files = slices.Clone(e.Queue.Log.Disk.Files)
	e.Queue.Entries = slices.Clone(e.Queue.Entries)
	e.Flights = slices.Clone(e.Flights)
	return e
}
