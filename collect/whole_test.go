package collect_test

import (
	"fmt"
	"maps"
	"math/rand/v2"
	"slices"
	"strings"
	"testing"

	"penstock/api"
	"penstock/collect"
)

// looked is c behind looks at the first line, till there is nothing to look at.
func looked(t *testing.T, c api.Collector) api.Collector {
	t.Helper()
	for {
		x := do(c, look(5, 1))
		if x.Out != (api.Out{N: 1}) {
			return x.Collector
		}
		c = x.Collector
	}
}

// TestP6Pieces has what comes be cut into any pieces: what is answered, and what becomes of the data, is the same.
func TestP6Pieces(t *testing.T) {
	r := rand.New(rand.NewPCG(6, 1))
	for range 60 {
		s, next := "", 0
		for range 1 + r.IntN(4) {
			s += anyRequest(r, &next)
		}
		c := past(t, opened(rich(), pick(r, 5, 1000)), connect(5, "r"))
		want := looked(t, past(t, c, feed(5, 1, s)))
		for range 5 {
			got := c
			for left := s; left != "" && !got.Lines[0].Conn.Closed; {
				n := 1 + r.IntN(pick(r, 3, 50, len(left)))
				n = min(n, len(left))
				got = looked(t, past(t, got, feed(5, 1, left[:n])))
				left = left[n:]
			}
			check(t, "in pieces "+brief(s), becomes(got, api.Out{}), becomes(want, api.Out{}))
		}
	}
}

// entries are the data of what an exporter holds, by their numbers.
func entries(e api.Exporter) map[uint64]string {
	out := map[uint64]string{}
	for _, x := range e.Queue.Entries {
		out[x.Seq] = x.Data
	}
	return out
}

// TestP7NotLost has the power go at any step, and crashes that keep anything: what was taken is there till it was answered for good, and then never again.
func TestP7NotLost(t *testing.T) {
	r := rand.New(rand.NewPCG(7, 1))
	crashes, broken := 0, 0
	for range 100 {
		c := opened(config("receiver r", "receiver s", "exporter e queue:20 file:100 consumers:2", "exporter f queue:9 file:1", "batch b size:2 max:4",
			"logs: r s > b > e f", "traces: r s > e", "metrics: r s > f"), 1000)
		for i := range c.Exporters {
			c.Exporters[i].Queue.Log.Disk.Fuse = pick(r, -1, 3+r.IntN(9))
		}
		gone := map[string]int{}
		for now := range uint64(80) {
			m := anyMove(r, c, now*20)
			if r.IntN(30) == 0 {
				m = crash(now, []int{r.IntN(200)}, []int{r.IntN(200), r.IntN(200)})
			}
			x := do(c, m)
			if x.Out.Why != api.OK {
				continue
			}
			for i, e := range x.Collector.Exporters {
				before, after := entries(c.Exporters[i]), entries(e)
				isCut := m.Kind == api.MoveCrash && c.Exporters[i].Queue.Log.Broken
				for seq, s := range before {
					is := after[seq] == s
					isReply := m.Kind == api.MoveReply && m.Exporter == i && m.Seq == seq
					if !is && !isReply && !isCut {
						t.Fatalf("%s: entry %d of exporter %d is lost", brief(m), seq, i)
					}
					if !is {
						gone[fmt.Sprint(i, " ", seq)]++
					}
				}
				for seq := range after {
					if gone[fmt.Sprint(i, " ", seq)] > 0 {
						t.Fatalf("%s: entry %d of exporter %d is there again", brief(m), seq, i)
					}
				}
				if isCut {
					broken++
					lost := len(before) - len(after)
					if lost > 1 || lost < -1 {
						t.Fatalf("%s: of %v are left %v", brief(m), slices.Collect(maps.Keys(before)), slices.Collect(maps.Keys(after)))
					}
				}
			}
			if m.Kind == api.MoveCrash {
				crashes++
				for i := range x.Collector.Exporters {
					x.Collector.Exporters[i].Queue.Log.Disk.Fuse = pick(r, -1, 3+r.IntN(9))
				}
			}
			c = x.Collector
		}
	}
	if crashes < 100 || broken < 20 {
		t.Errorf("%d crashes, %d of them of logs that were broken", crashes, broken)
	}
}

// comes is how often an item of that name comes to each exporter from a pipeline on, if the filter p leaves out names below 3.
func comes(c api.Config, pipe int, name string, to map[string]int) {
	p := c.Pipes[pipe]
	if slices.Contains(p.Procs, "p") && name < "3" {
		return
	}
	for _, end := range p.Exporters {
		if index(c.Exporters, end) >= 0 {
			to[end]++
		}
		for _, next := range takers(c, end) {
			comes(c, next, name, to)
		}
	}
}

// TestP9EachWay has processors of all kinds: each item comes to each exporter by each way, but for what the filter takes out.
func TestP9EachWay(t *testing.T) {
	r := rand.New(rand.NewPCG(9, 1))
	several, none := 0, 0
	for range 150 {
		l := anyConfig(r, true)
		setKey(&l.Procs[index(l.Procs, "p")], "drop", textNode(`name < "3"`))
		for i := range l.Exporters {
			setKey(&l.Exporters[i], "queue", textNode("1024"))
		}
		c := opened(l, 1<<30)
		want := map[string]map[string]int{}
		for i := range 4 {
			names := strings.Fields(numbered(i*3, i*3+3))
			signal, receiver := pick(r, signals()...), pick(r, "r", "s")
			c, _ = offered(t, c, uint64(i*30), receiver, data(signal, "a:"+names[0]+" "+names[1], "b:"+names[2]))
			c = past(t, c, tick(uint64(i*30)))
			for _, name := range names {
				want[name] = map[string]int{}
				for _, pipe := range takers(l, receiver) {
					if l.Pipes[pipe].Signal == signal {
						comes(l, pipe, name, want[name])
					}
				}
			}
		}
		c = past(t, c, stop(1000))
		for i, x := range l.Exporters {
			had := map[string]int{}
			for _, d := range sent(t, c, i) {
				for _, g := range d.Groups {
					for _, item := range g.Items {
						had[item.Name]++
					}
				}
			}
			for name, to := range want {
				if had[name] != to[x.Name] {
					t.Errorf("%s comes %d times to %s, want %d: %s", name, had[name], x.Name, to[x.Name], brief(l))
				}
				if several += to[x.Name] / 2; to[x.Name] == 0 {
					none++
				}
			}
		}
	}
	if several < 100 || none < 100 {
		t.Errorf("%d by several ways, %d by none", several, none)
	}
}

// TestP8Once has each item that is offered told once of, by its number, where the backends answer anything.
func TestP8Once(t *testing.T) {
	c := opened(config("receiver r", "exporter e queue:2 consumers:2 total:150ms", "exporter f", "logs: r > e f"), 1000)
	c = accepted(t, c, 0, logs("a:1 2 3"), logs("a:4"), logs("a:5 6 7 8 9"))
	c = past(t, c, send(1, 0), send(1, 0), reply(2, 0, 1, 503, ""), reply(2, 0, 2, 400, ""))
	c = accepted(t, c, 3, logs("b:10 11"))
	c = past(t, c, send(102, 0), reply(102, 0, 1, 0, ""), send(103, 0), reply(103, 0, 4, 204, "\x0a\x02\x08\x01"))
	if want := (api.Ledger{Offered: 11, Delivered: 1, Full: 5, Never: 1, Spent: 3, Rejected: 1}); c.Exporters[0].Ledger != want {
		t.Errorf("%+v, want %+v", c.Exporters[0].Ledger, want)
	}
	if want := (api.Ledger{Offered: 11}); c.Exporters[1].Ledger != want {
		t.Errorf("%+v, want %+v", c.Exporters[1].Ledger, want)
	}
	if n, why := collect.Held(c); n != 11 || why != api.OK {
		t.Errorf("%d are held", n)
	}
}
