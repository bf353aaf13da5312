package graph_test

import (
	"strconv"
	"strings"
	"testing"

	"penstock/api"
	"penstock/conf"
	"penstock/graph"
)

const whole = `
receivers:
  web:
    limit: 4KiB
  otlp:
processors:
  tag:
    kind: attributes
    actions: ["insert a text:x"]
  few:
    kind: filter
    drop: "true"
  many:
    kind: batch
connectors:
  join:
    kind: any
exporters:
  back:
    queue: 7
  away:
pipelines:
  traces:
    exporters: [back]
    receivers: [otlp]
  logs/b:
    receivers: [join]
    processors: []
    exporters: [away, back]
  logs:
    receivers: [web, otlp]
    processors: [many, tag]
    exporters: [join]
`

func TestP131Read(t *testing.T) {
	checkRead(t, "nothing", mapOf(), api.Config{}, api.OK)
	checkRead(t, "all", parsed(t, whole), api.Config{
		Receivers: []api.Comp{{Name: "web", Node: under("limit", textOf("4KiB"))}, {Name: "otlp"}},
		Procs: []api.Comp{
			{Name: "tag", Kind: "attributes", Node: mapOf(key("kind", textOf("attributes")), key("actions", listOf("insert a text:x")))},
			{Name: "few", Kind: "filter", Node: mapOf(key("kind", textOf("filter")), key("drop", textOf("true")))},
			{Name: "many", Kind: "batch", Node: under("kind", textOf("batch"))},
		},
		Conns:     []api.Comp{{Name: "join", Node: under("kind", textOf("any"))}},
		Exporters: []api.Comp{{Name: "back", Node: under("queue", textOf("7"))}, {Name: "away"}},
		Pipes:     pipes("traces: otlp > back", "logs/b: join > away back", "logs: web otlp > many tag > join"),
	}, api.OK)
}

// TestP131ReadSome has the five keys, each one alone, and all but one.
func TestP131ReadSome(t *testing.T) {
	all := parsed(t, "exporters:\n  e:\nreceivers:\n  r:\nprocessors:\n  p:\n    kind: filter\nconnectors:\npipelines:\n  logs:\n    receivers: [r]\n    exporters: [e]\n")
	want := api.Config{Receivers: comps("r"), Procs: []api.Comp{{Name: "p", Kind: "filter", Node: under("kind", textOf("filter"))}}, Exporters: comps("e"), Pipes: pipes("logs: r > e")}
	checkRead(t, "all keys", all, want, api.OK)
	for i, k := range all.Keys {
		c := api.Config{}
		wantWhy := api.OK
		switch k.Key {
		case "receivers":
			c.Receivers = want.Receivers
		case "processors":
			c.Procs = want.Procs
		case "exporters":
			c.Exporters = want.Exporters
		case "pipelines":
			wantWhy = api.ErrUnknown
		}
		checkRead(t, k.Key+" alone", mapOf(k), c, wantWhy)
		checkRead(t, k.Key+" without anything", under(k.Key, mapOf()), api.Config{}, api.OK)
		others := twin(all).Keys
		checkedWhy := map[string]api.Errno{"receivers": api.ErrUnknown, "exporters": api.ErrUnknown}[k.Key]
		if _, why := graph.Read(mapOf(append(others[:i], others[i+1:]...)...)); why != checkedWhy {
			t.Errorf("Read without %s: error %d, want %d", k.Key, why, checkedWhy)
		}
	}
	conns := parsed(t, "connectors:\n  c:\nreceivers:\n  r:\nexporters:\n  e:\npipelines:\n  logs/2:\n    receivers: [c]\n    exporters: [e]\n  logs/1:\n    receivers: [r]\n    exporters: [c]\n")
	checkRead(t, "connectors", conns, api.Config{Conns: comps("c"), Receivers: comps("r"), Exporters: comps("e"), Pipes: pipes("logs/2: c > e", "logs/1: r > c")}, api.OK)
}

// wholeWith is the whole config with something else at the end of a path, or without it.
func wholeWith(n api.Node, k string, x *api.Node, path ...string) api.Node {
	n = twin(n)
	if len(path) > 0 {
		for i := range n.Keys {
			if n.Keys[i].Key == path[0] {
				n.Keys[i].Node = wholeWith(n.Keys[i].Node, k, x, path[1:]...)
			}
		}
		return n
	}
	for i := range n.Keys {
		if n.Keys[i].Key == k && x != nil {
			n.Keys[i].Node = *x
			return n
		}
		if n.Keys[i].Key == k {
			n.Keys = append(n.Keys[:i], n.Keys[i+1:]...)
			return n
		}
	}
	n.Keys = append(n.Keys, key(k, *x))
	return n
}

func TestP131ReadOtherKinds(t *testing.T) {
	n := parsed(t, whole)
	text, list, empty, table := textOf("filter"), listOf("otlp"), listOf(), mapOf()
	many := batches("x", api.MaxComps+1)
	for at, wrong := range map[string][]*api.Node{
		"receivers":                 {&text, &list, &empty},
		"processors":                {&text, &list, &empty},
		"connectors":                {&text, &list, &empty},
		"exporters":                 {&text, &list, &empty},
		"pipelines":                 {&text, &list, &empty},
		"receivers web":             {&text, &list, &empty},
		"processors few":            {&text, &list, &empty, &table},
		"processors few kind":       {&list, &empty, &table, nil},
		"connectors join":           {&text, &list, &empty},
		"exporters away":            {&text, &list, &empty},
		"pipelines logs":            {&text, &list, &empty, &table},
		"pipelines logs receivers":  {&text, &table, &empty, nil},
		"pipelines logs processors": {&text, &table},
		"pipelines logs exporters":  {&text, &table, &empty, nil},
		"pipelines logs kind":       {&text, &list, &table},
		"pipelines logs Receivers":  {&list},
		"pipelines logs connectors": {&list, &table},
		"other":                     {&text, &list, &empty, &table},
		"receiver":                  {&table},
		"Receivers":                 {&table},
		"kind":                      {&text},
		"processors.":               {&table},
	} {
		path := strings.Split(at, " ")
		last := len(path) - 1
		for i, x := range wrong {
			bad := wholeWith(n, path[last], x, path[:last]...)
			checkRead(t, at+" as a wrong one, "+strconv.Itoa(i), bad, api.Config{}, api.ErrConf)
			crowded := "exporters"
			if path[0] == crowded {
				crowded = "connectors"
			}
			checkRead(t, at+" as a wrong one, "+strconv.Itoa(i)+", and too many components", wholeWith(bad, crowded, &many), api.Config{}, api.ErrConf)
		}
	}
	for _, at := range []string{"receivers web more", "receivers web kind", "connectors join exporters", "exporters away pipelines", "processors few more"} {
		path := strings.Split(at, " ")
		for _, x := range []api.Node{text, list, table} {
			if _, why := graph.Read(wholeWith(n, path[2], &x, path[:2]...)); why != api.OK {
				t.Errorf("Read with a key %s, which is the component's: error %d", at, why)
			}
		}
	}
}

func TestP131ReadKinds(t *testing.T) {
	n := parsed(t, whole)
	for kind, want := range map[string]api.Errno{"attributes": api.OK, "filter": api.OK, "batch": api.OK, "": api.ErrConf, "Filter": api.ErrConf, "filters": api.ErrConf, "attribute": api.ErrConf, "batch ": api.ErrConf, "retry": api.ErrConf, "b": api.ErrConf, "atch": api.ErrConf} {
		x := textOf(kind)
		c, why := graph.Read(wholeWith(n, "kind", &x, "processors", "few"))
		if why != want || why == api.OK && (c.Procs[1].Kind != kind || !same(c.Procs[1].Node.Keys[0], key("kind", x))) {
			t.Errorf("Read of a processor of kind %q: error %d, %s", kind, why, brief(c.Procs))
		}
	}
}

func TestP131ReadPipelines(t *testing.T) {
	for name, want := range map[string]api.Signal{
		"traces": api.SignalTrace, "logs": api.SignalLog, "metrics": api.SignalMetric,
		"traces/": api.SignalTrace, "logs/": api.SignalLog, "metrics/": api.SignalMetric,
		"traces/b": api.SignalTrace, "logs/logs": api.SignalLog, "metrics/a/b.c_d-E/": api.SignalMetric, "logs/traces": api.SignalLog, "traces//": api.SignalTrace,
	} {
		n := mapOf(key("receivers", under("r", mapOf())), key("exporters", under("e", mapOf())), key("pipelines", under(name, mapOf(key("receivers", listOf("r")), key("exporters", listOf("e"))))))
		c, why := graph.Read(n)
		wantPipes := []api.Pipe{{Signal: want, Name: name, Receivers: []string{"r"}, Exporters: []string{"e"}}}
		check(t, "Read of a pipeline "+name, c.Pipes, why, wantPipes, api.OK)
	}
	for _, name := range []string{"trace", "log", "metric", "Traces", "LOGS", "tracesb", "logs.", "logs-b", "metrics_/", "/", "/logs", "b/logs", "x", "traceslogs", "t", "spans/b"} {
		n := mapOf(key("receivers", under("r", mapOf())), key("exporters", under("e", mapOf())), key("pipelines", under(name, mapOf(key("receivers", listOf("r")), key("exporters", listOf("e"))))))
		checkRead(t, "a pipeline "+name, n, api.Config{}, api.ErrConf)
	}
}

// TestP131ReadNode has nodes that are not right, or no maps.
func TestP131ReadNode(t *testing.T) {
	long := strings.Repeat("x", api.MaxText+1)
	for name, n := range map[string]api.Node{
		"a text":       textOf("receivers"),
		"a list":       listOf("receivers"),
		"no kind":      {Kind: api.NodeCount},
		"a map, and a": {Text: "x"},
		"a key twice":  mapOf(key("receivers", mapOf()), key("receivers", mapOf())),
		"a long text":  under("receivers", under("r", under("k", textOf(long)))),
		"no key":       under("receivers", under("a b", mapOf())),
		"no kind in":   under("receivers", under("r", under("k", api.Node{Kind: 200}))),
	} {
		if why := conf.Check(n); why != api.ErrConf {
			t.Fatalf("%s is right", name)
		}
		checkRead(t, name, n, api.Config{}, api.ErrConf)
	}
}

// batches is a map of so many components.
func batches(name string, n int) api.Node {
	var l []api.Keyed
	for _, k := range strings.Fields(numbered(name, n)) {
		l = append(l, key(k, under("kind", textOf("batch"))))
	}
	return mapOf(l...)
}

// TestP131ReadCheck has configs that are said well, and are not right.
func TestP131ReadCheck(t *testing.T) {
	for _, k := range []string{"receivers", "processors", "exporters"} {
		c, why := graph.Read(under(k, batches("x", api.MaxComps)))
		if n := len(c.Receivers) + len(c.Procs) + len(c.Exporters); n != api.MaxComps || why != api.OK {
			t.Errorf("Read of as many %s as may be: %d, error %d", k, n, why)
		}
	}
	for _, k := range []string{"receivers", "processors", "connectors", "exporters"} {
		checkRead(t, "too many "+k, under(k, batches("x", api.MaxComps+1)), api.Config{}, api.ErrMany)
		bad := mapOf(key(k, batches("x", api.MaxComps+1)), key("other", mapOf()))
		checkRead(t, "too many "+k+", and another key", bad, api.Config{}, api.ErrConf)
	}
	odd := batches("x", api.MaxComps+1)
	odd.Keys[api.MaxComps].Node = under("kind", textOf("other"))
	checkRead(t, "too many processors, one of no kind", under("processors", odd), api.Config{}, api.ErrConf)
	const ends = "receivers:\n  r:\nexporters:\n  e:\nconnectors:\n  c:\npipelines:\n"
	line := func(name, from, to string) string {
		return "  " + name + ":\n    receivers: [" + from + "]\n    exporters: [" + to + "]\n"
	}
	many := ""
	for i := range api.MaxComps + 1 {
		many += line("logs/"+strconv.Itoa(i), "r", "e")
	}
	for text, want := range map[string]api.Errno{
		ends + many:                                                     api.ErrMany,
		"receivers:\n  x:\nexporters:\n  x:\n":                          api.ErrConf,
		"receivers:\n  x:\nconnectors:\n  x:\n":                         api.ErrConf,
		ends + line("logs", "r", "e"):                                   api.ErrConf, // nothing goes through c
		ends + line("logs", "r", "c"):                                   api.ErrConf,
		ends + line("logs", "r", "c") + line("logs/b", "c", "e, e"):     api.ErrConf,
		ends + line("logs", "r, x", "c") + line("logs/b", "c", "e"):     api.ErrUnknown,
		ends + line("logs", "r", "c, \"\"") + line("logs/b", "c", "e"):  api.ErrUnknown,
		ends + line("logs", "r", "c") + line("traces", "c", "e"):        api.ErrType,
		ends + line("logs", "r, c", "c, e"):                             api.ErrCycle,
		ends + line("logs", "r", "c, e") + line("logs/b", "c, r", "e"):  api.OK,
		ends + line("logs", "c, r", "e") + line("logs/b", "r", "e, c"):  api.OK,
		ends + line("logs", "e", "c") + line("logs/b", "c", "e"):        api.ErrUnknown,
		ends + line("logs", "r", "\"r\"") + line("logs/b", "c, r", "e"): api.ErrUnknown,
	} {
		c, why := graph.Read(parsed(t, text))
		if why != want || why != api.OK && !same(c, api.Config{}) {
			t.Errorf("Read: error %d, want %d, beside it %s\nof %s", why, want, brief(c), text)
		}
	}
}
