package graph

import (
	"slices"
	"strings"

	"penstock/api"
	"penstock/conf"
	"penstock/fail"
)

// read is the config of a right node, whether or not it is right; it panics with ErrConf, where n says none.
func read(n api.Node) api.Config {
	n, _ = conf.Get(n) // its lists are the config's own then
	var c api.Config
	for _, k := range n.Keys {
		switch k.Key {
		case "receivers":
			c.Receivers = each(k.Node, comp)
		case "processors":
			c.Procs = each(k.Node, proc)
		case "connectors":
			c.Conns = each(k.Node, comp)
		case "exporters":
			c.Exporters = each(k.Node, comp)
		case "pipelines":
			c.Pipes = each(k.Node, pipe)
		default:
			fail.On(api.ErrConf)
		}
	}
	return c
}

// each is what is made of each key of a map.
func each[T any](n api.Node, made func(api.Keyed) T) []T {
	var out []T
	for _, k := range keys(n) {
		out = append(out, made(k))
	}
	return out
}

func keys(n api.Node) []api.Keyed {
	fail.Unless(n.Kind == api.NodeMap, api.ErrConf)
	return n.Keys
}

func comp(k api.Keyed) api.Comp {
	fail.Unless(k.Node.Kind == api.NodeMap, api.ErrConf)
	return api.Comp{Name: k.Key, Node: k.Node}
}

func proc(k api.Keyed) api.Comp {
	out := comp(k)
	kind, _ := conf.Get(k.Node, "kind")
	fail.Unless(kind.Kind == api.NodeText && isProc(kind.Text), api.ErrConf)
	out.Kind = kind.Text
	return out
}

// isProc tells whether there are processors of that kind.
func isProc(kind string) bool {
	return slices.Contains([]string{"attributes", "filter", "batch"}, kind)
}

func pipe(k api.Keyed) api.Pipe {
	p := api.Pipe{Signal: signal(k.Key), Name: k.Key}
	for _, x := range keys(k.Node) {
		fail.Unless(x.Node.Kind == api.NodeList, api.ErrConf)
		switch x.Key {
		case "receivers":
			p.Receivers = x.Node.List
		case "processors":
			p.Procs = x.Node.List
		case "exporters":
			p.Exporters = x.Node.List
		default:
			fail.On(api.ErrConf)
		}
	}
	checkEnds(p)
	return p
}

// signal is that of the pipeline of that name.
func signal(name string) api.Signal {
	word, _, _ := strings.Cut(name, "/")
	s, is := map[string]api.Signal{
		"traces":  api.SignalTrace,
		"logs":    api.SignalLog,
		"metrics": api.SignalMetric,
	}[word]
	fail.Unless(is, api.ErrConf)
	return s
}
