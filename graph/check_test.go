package graph_test

import (
	"fmt"
	"math/rand/v2"
	"slices"
	"strconv"
	"strings"
	"testing"

	"penstock/api"
	"penstock/graph"
)

func TestP131Check(t *testing.T) {
	for name, c := range map[string]api.Config{
		"nothing":                           {},
		"components alone":                  {Receivers: comps("a b"), Procs: procs("c"), Exporters: comps("d")},
		"a pipeline":                        config("", "logs: r > e"),
		"one of each signal":                config("", "logs: r > e", "traces: r > e", "metrics: r > e"),
		"several of a signal":               config("", "logs: r > e", "logs/b: r > e", "logs/c: r > e"),
		"many names":                        config("", "logs: r s > q p > g f e"),
		"a connector":                       config("c", "logs: r > c", "logs/b: c > e"),
		"a connector, behind":               config("c", "logs/b: c > e", "logs: r > c"),
		"connectors of two signals":         config("c d", "logs: r > c", "logs/b: c > e", "traces/b: d > e", "traces: r > d"),
		"several to a connector":            config("c", "logs: r > c", "logs/a: r > c", "logs/b: c > e", "logs/c: c > e"),
		"joined by two":                     config("c d", "logs: r > c d", "logs/b: c d > e"),
		"joined on two ways":                config("c d", "logs: r > c", "logs/a: r c > d", "logs/b: d c > e"),
		"processors named as others":        {Receivers: comps("a"), Procs: procs("a b"), Exporters: comps("b"), Pipes: pipes("logs: a > a b > b")},
		"a pipeline named as a component":   {Receivers: comps("a"), Exporters: comps("b"), Pipes: pipes("logs: a > b", "traces/: a > b")},
		"names that are empty":              {Receivers: []api.Comp{{}}, Procs: []api.Comp{{Kind: "batch"}}, Exporters: comps("b"), Pipes: []api.Pipe{{Signal: api.SignalLog, Receivers: []string{""}, Procs: []string{""}, Exporters: []string{"b"}}}},
		"names that are anything":           {Receivers: []api.Comp{{Name: "\xff "}}, Exporters: comps("b"), Pipes: []api.Pipe{{Signal: api.SignalTrace, Name: "logs", Receivers: []string{"\xff "}, Exporters: []string{"b"}}}},
		"processors of each kind":           {Procs: []api.Comp{{Name: "a", Kind: "attributes"}, {Name: "b", Kind: "filter"}, {Name: "c", Kind: "batch"}}},
		"nodes":                             {Receivers: []api.Comp{{Name: "a", Node: under("k", listOf("x"))}}, Conns: nil, Procs: []api.Comp{{Name: "b", Kind: "batch", Node: under("kind", textOf("other"))}}},
		"as many components as there may":   {Receivers: comps(numbered("r", 32)), Procs: procs(numbered("p", 32)), Exporters: comps(numbered("e", 32))},
		"lists that are empty":              {Receivers: []api.Comp{}, Pipes: []api.Pipe{}},
		"a pipeline's list that is empty":   {Receivers: comps("a"), Exporters: comps("b"), Pipes: []api.Pipe{{Signal: api.SignalLog, Receivers: []string{"a"}, Procs: []string{}, Exporters: []string{"b"}}}},
		"receivers and exporters not named": {Receivers: comps("a x"), Procs: procs("p"), Exporters: comps("y b"), Pipes: pipes("logs: a > b")},
	} {
		checkConfig(t, name, c, api.OK)
	}
}

// chain is so many pipelines, one behind the other.
func chain(n int) api.Config {
	c := config(numbered("c", n-1))
	for i := range n {
		from, to := "r", "e"
		if i > 0 {
			from = "c" + strconv.Itoa(i-1)
		}
		if i < n-1 {
			to = "c" + strconv.Itoa(i)
		}
		c.Pipes = append(c.Pipes, pipe(fmt.Sprintf("logs/%d: %s > %s", i, from, to)))
	}
	return c
}

func TestP131CheckMost(t *testing.T) {
	c := chain(api.MaxComps)
	checkConfig(t, "a long chain", c, api.OK)
	c.Pipes = append(c.Pipes, pipe("logs: r > e"))
	checkConfig(t, "a pipeline more", c, api.ErrMany)
	c = chain(api.MaxComps)
	c.Conns = append(c.Conns, comps("c d")...)
	checkConfig(t, "two connectors more", c, api.ErrMany)
	c.Conns = c.Conns[:api.MaxComps]
	checkConfig(t, "a connector more", c, api.ErrConf)
	c.Pipes[0].Exporters = append(c.Pipes[0].Exporters, "c")
	c.Pipes[31].Receivers = append(c.Pipes[31].Receivers, "c")
	checkConfig(t, "as many connectors as may be", c, api.OK)
}

// fault is something that makes a config wrong; of those of a lower stage the error is told ahead.
type fault struct {
	name  string
	stage int
	want  api.Errno
	make  func(*api.Config)
}

// The stages, as the chapter has them.
const (
	ofSizes = iota
	ofComps
	ofPipes
	ofConns
	ofRings
	ofWays
)

// with puts components and pipelines to a config, whose names have a # for what no other one has.
func with(receivers, conns, exporters string, l ...string) func(*api.Config) {
	return func(c *api.Config) {
		own := func(s string) string { return strings.ReplaceAll(s, "#", "-"+strconv.Itoa(len(c.Pipes))) }
		receivers, conns, exporters := own(receivers), own(conns), own(exporters)
		var more []api.Pipe
		for _, s := range l {
			more = append(more, pipe(own(s)))
		}
		c.Receivers = append(c.Receivers, comps(receivers)...)
		c.Conns = append(c.Conns, comps(conns)...)
		c.Exporters = append(c.Exporters, comps(exporters)...)
		c.Pipes = append(c.Pipes, more...)
	}
}

// withPipe puts a pipeline that is changed.
func withPipe(s string, change func(*api.Pipe)) func(*api.Config) {
	return func(c *api.Config) {
		with("", "", "", s)(c)
		change(&c.Pipes[len(c.Pipes)-1])
	}
}

func faults() []fault {
	many := func(name string) []api.Comp { return comps(numbered(name, api.MaxComps+1)) }
	l := []fault{
		{"too many receivers", ofSizes, api.ErrMany, func(c *api.Config) { c.Receivers = append(c.Receivers, many("x")...) }},
		{"too many processors", ofSizes, api.ErrMany, func(c *api.Config) { c.Procs = append(c.Procs, many("x")...) }},
		{"too many connectors", ofSizes, api.ErrMany, func(c *api.Config) { c.Conns = append(c.Conns, many("y")...) }},
		{"too many exporters", ofSizes, api.ErrMany, func(c *api.Config) { c.Exporters = append(c.Exporters, many("z")...) }},
		{"too many pipelines", ofSizes, api.ErrMany, func(c *api.Config) { c.Pipes = append(c.Pipes, make([]api.Pipe, api.MaxComps+1)...) }},
		{"a receiver twice", ofComps, api.ErrConf, with("r", "", "")},
		{"a connector as a receiver", ofComps, api.ErrConf, with("", "r", "")},
		{"an exporter as a receiver", ofComps, api.ErrConf, with("", "", "r")},
		{"an exporter as a connector", ofComps, api.ErrConf, with("", "x", "x")},
		{"an exporter twice", ofComps, api.ErrConf, with("", "", "x e")},
		{"a connector twice", ofComps, api.ErrConf, with("", "x x", "")},
		{"a processor twice", ofComps, api.ErrConf, func(c *api.Config) { c.Procs = append(c.Procs, procs("x p")...) }},
		{"a pipeline twice", ofComps, api.ErrConf, with("", "", "", "metrics/x: r > e", "metrics/x: r > e")},
		{"a pipeline's name twice", ofComps, api.ErrConf, withPipe("logs/x: s > f", func(p *api.Pipe) { p.Name = "logs" })},
		{"a pipeline, of two signals", ofComps, api.ErrConf, withPipe("logs/x: s > f", func(p *api.Pipe) { p.Name, p.Signal = "logs", api.SignalTrace })},
		{"signals that are none", ofPipes, api.ErrType, withPipe("logs/#: r > e", func(p *api.Pipe) { p.Signal = api.SignalNone })},
		{"a signal beyond", ofPipes, api.ErrType, withPipe("logs/#: r > e", func(p *api.Pipe) { p.Signal = api.SignalCount })},
		{"a signal far beyond", ofPipes, api.ErrType, withPipe("logs/#: r > e", func(p *api.Pipe) { p.Signal = 255 })},
		{"a signal that is none, and all else", ofPipes, api.ErrType, withPipe("logs/#: > x x > x x", func(p *api.Pipe) { p.Signal = api.SignalCount })},
		{"no receiver", ofPipes, api.ErrConf, with("", "", "", "logs/#: > e")},
		{"no exporter", ofPipes, api.ErrConf, with("", "", "", "logs/#: r >")},
		{"no receiver, and unknown ones", ofPipes, api.ErrConf, with("", "", "", "logs/#: > x > x")},
		{"no exporter, and unknown ones", ofPipes, api.ErrConf, with("", "", "", "logs/#: x > x > ")},
		{"an unknown receiver", ofPipes, api.ErrUnknown, with("", "", "", "logs/#: x > e")},
		{"an unknown receiver, too", ofPipes, api.ErrUnknown, with("", "", "", "logs/#: r x > e")},
		{"an unknown processor", ofPipes, api.ErrUnknown, with("", "", "", "logs/#: r > p x > e")},
		{"an unknown exporter", ofPipes, api.ErrUnknown, with("", "", "", "logs/#: r > x")},
		{"an unknown exporter, too", ofPipes, api.ErrUnknown, with("", "", "", "logs/#: r > e x")},
		{"an exporter as a pipeline's receiver", ofPipes, api.ErrUnknown, with("", "", "", "logs/#: e > e")},
		{"a processor as a pipeline's receiver", ofPipes, api.ErrUnknown, with("", "", "", "logs/#: p > e")},
		{"a receiver as a pipeline's exporter", ofPipes, api.ErrUnknown, with("", "", "", "logs/#: r > r")},
		{"a processor as a pipeline's exporter", ofPipes, api.ErrUnknown, with("", "", "", "logs/#: r > p")},
		{"a receiver as a processor", ofPipes, api.ErrUnknown, with("", "", "", "logs/#: r > r > e")},
		{"a connector as a processor", ofPipes, api.ErrUnknown, with("", "x#", "", "logs/#: r > x# > e x#")},
		{"an exporter as a processor", ofPipes, api.ErrUnknown, with("", "", "", "logs/#: r > e > e")},
		{"unknown ones, and some twice", ofPipes, api.ErrUnknown, with("", "", "", "logs/#: r r > p p > e e x")},
		{"a pipeline's receiver twice", ofPipes, api.ErrConf, with("", "", "", "logs/#: r s r > e")},
		{"a pipeline's processor twice", ofPipes, api.ErrConf, with("", "", "", "logs/#: r > p q p > e")},
		{"a pipeline's exporter twice", ofPipes, api.ErrConf, with("", "", "", "logs/#: r > f e e")},
		{"a pipeline's connector twice", ofPipes, api.ErrConf, with("", "x#", "", "logs/#: r > x# x#")},
		{"a connector behind nothing", ofConns, api.ErrConf, with("", "x#", "", "logs/#: r x# > e")},
		{"a connector ahead of nothing", ofConns, api.ErrConf, with("", "x#", "", "logs/#: r > e x#")},
		{"a connector of nothing", ofConns, api.ErrConf, func(c *api.Config) { c.Conns = append(c.Conns, comps("none"+strconv.Itoa(len(c.Conns)))...) }},
		{"a connector to two signals", ofConns, api.ErrType, with("", "x#", "", "logs/#: r > x#", "traces/#: x# > e")},
		{"a connector from two signals", ofConns, api.ErrType, with("", "x#", "", "logs/#: x# > e", "metrics/#: r > x#", "logs/b#: r > x#")},
		{"a connector to one and another signal", ofConns, api.ErrType, with("", "x#", "", "logs/#: r > x#", "logs/b#: x# > e", "metrics/#: x# > e")},
		{"a ring of two signals", ofConns, api.ErrType, with("", "x# y#", "", "logs/#: r y# > x#", "metrics/#: x# > e y#")},
		{"a ring of one", ofRings, api.ErrCycle, with("", "x#", "", "logs/#: r x# > x# e")},
		{"a ring of one without an end", ofRings, api.ErrCycle, with("", "x#", "", "logs/#: x# > x#")},
		{"a ring of two", ofRings, api.ErrCycle, with("", "x# y#", "", "logs/#: r y# > x#", "logs/b#: x# > e y#")},
		{"a ring of three", ofRings, api.ErrCycle, with("", "x# y# z#", "", "logs/#: r z# > x#", "logs/b#: y# > z# e", "logs/c#: x# > y#")},
		{"a ring ahead of another pipeline", ofRings, api.ErrCycle, with("", "x# y#", "", "logs/#: r x# > x# y#", "logs/b#: y# > e")},
		{"a ring behind another pipeline", ofRings, api.ErrCycle, with("", "x# y#", "", "logs/#: r > y#", "logs/b#: x# y# > e x#")},
		{"too many ways", ofWays, api.ErrMany, func(c *api.Config) { c.Pipes = append(c.Pipes, manyWays(c)...) }},
	}
	for name, change := range map[string]func(*api.Config){
		"receiver's":  func(c *api.Config) { c.Receivers[0].Kind = "batch" },
		"exporter's":  func(c *api.Config) { c.Exporters[2].Kind = "filter" },
		"connector's": func(c *api.Config) { c.Conns = append(c.Conns, api.Comp{Name: "x", Kind: "attributes"}) },
	} {
		l = append(l, fault{"a " + name + " kind", ofComps, api.ErrConf, change})
	}
	for _, kind := range []string{"", "Batch", "other", "filter ", "batchfilter"} {
		l = append(l, fault{"a processor of kind " + kind, ofComps, api.ErrConf, func(c *api.Config) { c.Procs[1].Kind = kind }})
	}
	return append(l, nodeFaults()...)
}

// nodeFaults have nodes that are not right, one in each list.
func nodeFaults() []fault {
	var l []fault
	for name, n := range map[string]api.Node{"a text": textOf("x"), "a list": listOf(), "no kind": {Kind: api.NodeCount}, "with no key": under("", mapOf()), "with more": {Text: "x"}} {
		for list, at := range map[string]func(*api.Config) *api.Comp{
			"receiver":  func(c *api.Config) *api.Comp { return &c.Receivers[1] },
			"processor": func(c *api.Config) *api.Comp { return &c.Procs[1] },
			"connector": func(c *api.Config) *api.Comp {
				c.Conns = append(c.Conns, api.Comp{Name: "x"})
				return &c.Conns[len(c.Conns)-1]
			},
			"exporter": func(c *api.Config) *api.Comp { return &c.Exporters[2] },
		} {
			l = append(l, fault{"a " + list + "'s node " + name, ofComps, api.ErrConf, func(c *api.Config) { at(c).Node = n }})
		}
	}
	return l
}

// manyWays are pipelines with a connector each to the one behind, and to the one behind that; none of them is long.
func manyWays(c *api.Config) []api.Pipe {
	n := strconv.Itoa(len(c.Pipes))
	for i := range 8 {
		c.Conns = append(c.Conns, comps(fmt.Sprintf("%s-%d", n, i))...)
	}
	name := func(i int) string { return fmt.Sprintf("%s-%d", n, i) }
	return pipes(
		fmt.Sprintf("logs/%s: r > %s %s", name(0), name(0), name(1)),
		fmt.Sprintf("logs/%s: %s %s > %s %s %s", name(1), name(0), name(1), name(2), name(3), name(4)),
		fmt.Sprintf("logs/%s: %s %s %s > %s %s %s", name(2), name(2), name(3), name(4), name(5), name(6), name(7)),
		fmt.Sprintf("logs/%s: %s %s %s > e f g", name(3), name(5), name(6), name(7)),
		fmt.Sprintf("logs/%s: %s %s %s > e", name(4), name(5), name(6), name(7)),
	)
}

func base() api.Config {
	return config("c", "logs: r > p > c", "logs/b: s c > e f")
}

func TestP131CheckFaults(t *testing.T) {
	for _, x := range faults() {
		c := base()
		x.make(&c)
		checkConfig(t, x.name, c, x.want)
		if why := (model{c}).judge(); why != x.want {
			t.Errorf("the model says %d of %s", why, x.name)
		}
	}
}

// TestP131CheckOrder has each two faults at once: that of the lower stage is told, of one stage that which comes first.
func TestP131CheckOrder(t *testing.T) {
	for _, x := range faults() {
		for _, y := range faults() {
			c := base()
			x.make(&c)
			y.make(&c)
			want := x.want
			if y.stage < x.stage {
				want = y.want
			}
			if why := graph.Check(c); why != want {
				t.Errorf("Check of %s, and %s: error %d, want %d", x.name, y.name, why, want)
			}
		}
	}
}

// TestP131CheckWays tells MaxWays ways apart from one more.
func TestP131CheckWays(t *testing.T) {
	e := strings.Fields(numbered("e", 32))
	all, some := strings.Join(e, " "), func(n int) string { return strings.Join(e[:n], " ") }
	for name, x := range map[string]struct {
		want  api.Errno
		conns string
		l     []string
	}{
		"all exporters":            {api.OK, "", []string{"logs: r > " + all}},
		"all, twice":               {api.OK, "c", []string{"logs: r > c " + all, "logs/b: c > " + all}},
		"all, by two connectors":   {api.OK, "c d", []string{"logs: r > c d", "logs/b: c d > " + all}},
		"all, by two pipelines":    {api.OK, "c", []string{"logs: r > c", "logs/b: c > " + all, "logs/a: c > " + all}},
		"one more, as its own":     {api.ErrMany, "c d", []string{"logs: r > c d e0", "logs/b: c d > " + all}},
		"one more, of another":     {api.ErrMany, "c d", []string{"logs: r > c d", "logs/b: c d > " + all, "logs/a: c > e9"}},
		"half, four times":         {api.OK, "c d", []string{"logs: r > c d", "logs/b: c d > " + some(16), "logs/a: c d > " + some(16)}},
		"half, and one":            {api.ErrMany, "c d", []string{"logs: r > c d", "logs/b: c d > " + some(16), "logs/a: c d > " + some(17)}},
		"several pipelines, each":  {api.OK, "c d", []string{"logs: r > c d", "logs/b: c d > " + all, "logs/a: r > c d", "traces: r > " + all}},
		"many behind the first":    {api.ErrMany, "c d x", []string{"logs/0: r > x", "logs: x > c d e0", "logs/b: c d > " + all}},
		"many, and the last one":   {api.ErrMany, "c d", []string{"metrics: r > e1", "logs/b: c d > " + all, "logs: r > e0 c d"}},
		"many, the first one less": {api.ErrMany, "c d x", []string{"logs/b: c d > " + all, "logs: x r > c d e0", "logs/0: r > x"}},
	} {
		c := api.Config{Receivers: comps("r"), Conns: comps(x.conns), Exporters: comps(all), Pipes: pipes(x.l...)}
		checkConfig(t, name, c, x.want)
		if why := (model{c}).judge(); why != x.want {
			t.Errorf("the model says %d of %s", why, name)
		}
	}
}

// dense is 32 pipelines, each joined with each one behind it, by as many connectors as there are places between.
func dense() api.Config {
	c := api.Config{Receivers: comps("r"), Conns: comps(numbered("c", 31)), Exporters: comps("e0")}
	for i := range 32 {
		p := pipe(fmt.Sprintf("logs/%d: r > e0", i))
		for k := range 31 {
			if k < i {
				p.Receivers = append(p.Receivers, "c"+strconv.Itoa(k))
			} else {
				p.Exporters = append(p.Exporters, "c"+strconv.Itoa(k))
			}
		}
		c.Pipes = append(c.Pipes, p)
	}
	return c
}

// doubled is n + 1 pipelines, each joined with the next one by two connectors.
func doubled(n int) api.Config {
	c := api.Config{Receivers: comps("r"), Conns: comps(numbered("a", n) + numbered("b", n)), Exporters: comps("e")}
	for i := range n + 1 {
		from, to := "r", "e"
		if i > 0 {
			from = fmt.Sprintf("a%d b%d", i-1, i-1)
		}
		if i < n {
			to = fmt.Sprintf("a%d b%d", i, i)
		}
		c.Pipes = append(c.Pipes, pipe(fmt.Sprintf("logs/%d: %s > %s", i, from, to)))
	}
	return c
}

// TestP131CheckVeryManyWays has more ways than can be gone one by one, also such whose number is 0 modulo 2^8 and 2^16.
func TestP131CheckVeryManyWays(t *testing.T) {
	c := dense()
	checkConfig(t, "very many ways", c, api.ErrMany)
	for i := range c.Pipes[:31] {
		c.Pipes[i].Exporters = c.Pipes[i].Exporters[1:]
	}
	checkConfig(t, "very many ways, with one end", c, api.ErrMany)
	slices.Reverse(c.Pipes)
	checkConfig(t, "very many ways, from behind", c, api.ErrMany)
	for n, want := range map[int]api.Errno{1: api.OK, 6: api.OK, 7: api.ErrMany, 8: api.ErrMany, 9: api.ErrMany, 16: api.ErrMany} {
		c := doubled(n)
		checkConfig(t, fmt.Sprintf("2^%d ways", n), c, want)
		slices.Reverse(c.Pipes)
		checkConfig(t, fmt.Sprintf("2^%d ways, from behind", n), c, want)
	}
}

// TestP131CheckModel holds Check against the model; each error must have come.
func TestP131CheckModel(t *testing.T) {
	r := rand.New(rand.NewPCG(13, 1))
	had := map[api.Errno]int{}
	for range 6000 {
		c := someConfig(r, 1+r.IntN(7), r.IntN(5), 1+r.IntN(4))
		for r.IntN(2) == 0 {
			c = spoiled(r, c)
		}
		want := model{c}.judge()
		had[want]++
		checkConfig(t, "any config", c, want)
	}
	for range 300 {
		c := someConfig(r, 5+r.IntN(20), 5+r.IntN(10), 1+r.IntN(20))
		want := model{c}.judge()
		had[want]++
		checkConfig(t, "a great config", c, want)
	}
	for _, why := range []api.Errno{api.OK, api.ErrMany, api.ErrConf, api.ErrType, api.ErrUnknown, api.ErrCycle} {
		if had[why] < 50 {
			t.Errorf("error %d came %d times only: %v", why, had[why], had)
		}
	}
}
