package graph_test

import (
	"fmt"
	"math/rand/v2"
	"slices"
	"strconv"
	"strings"
	"testing"

	"penstock/api"
	"penstock/graph"
)

func example() api.Config {
	return api.Config{Receivers: comps("r"), Conns: comps("c"), Exporters: comps("e1 e2"), Pipes: pipes("logs: r > c e1", "logs/b: c > e1 e2")}
}

func TestP132Example(t *testing.T) {
	c := example()
	checkOrder(t, "the example", c, 0, 1)
	checkWays(t, "the example", c, 0, 2, 1)
	checkWays(t, "the example", c, 1, 1, 1)
	checkAfter(t, "the example", c, 0, []int{1}, []int{0})
	checkAfter(t, "the example", c, 1, nil, []int{0, 1})
}

func TestP132Order(t *testing.T) {
	checkOrder(t, "nothing", api.Config{})
	checkOrder(t, "components alone", config(""))
	checkOrder(t, "one", config("", "logs: r > e"), 0)
	checkOrder(t, "some that are not joined", config("", "logs: r > e", "traces: r > e", "logs/b: s > e"), 0, 1, 2)
	checkOrder(t, "one behind another", config("c", "logs: r > c", "logs/b: c > e"), 0, 1)
	checkOrder(t, "one ahead of another", config("c", "logs/b: c > e", "logs: r > c"), 1, 0)
	checkOrder(t, "several that may stand next", config("c d", "logs/0: d > e", "logs/1: r > e", "logs/2: c > d", "logs/3: r > c", "logs/4: r > e"), 1, 3, 2, 0, 4)
	checkOrder(t, "one that may stand later", config("c", "logs/0: r c > e", "logs/1: r > e", "logs/2: s > c", "logs/3: s > e"), 1, 2, 0, 3)
	checkOrder(t, "two ahead of one", config("c d", "logs/0: r > e", "logs/1: d c > e", "logs/2: r > d", "logs/3: r > c"), 0, 2, 3, 1)
	checkOrder(t, "two ahead of one, by one connector", config("c", "logs/0: c > e", "logs/1: r > c", "logs/2: r > c"), 1, 2, 0)
	checkOrder(t, "two connectors between", config("c d", "logs/0: d c > e", "logs/1: r > c d e"), 1, 0)
	checkOrder(t, "a long way and a short one", config("c d x", "logs/0: x d > e", "logs/1: c > d", "logs/2: r > c x"), 2, 1, 0)
	c := chain(32)
	slices.Reverse(c.Pipes)
	var want []int
	for i := range 32 {
		want = append(want, 31-i)
	}
	checkOrder(t, "a long chain from behind", c, want...)
}

func TestP132From(t *testing.T) {
	c := config("c", "traces: s > e", "logs: r > c", "logs/b: s c r > e", "metrics: s > f", "logs/c: s > g", "traces/b: r s > e")
	for at, want := range map[string][]int{
		"r logs": {1, 2}, "s logs": {2, 4}, "r traces": {5}, "s traces": {0, 5}, "s metrics": {3}, "r metrics": nil, "r other": nil, "s other": nil,
	} {
		receiver, signal, _ := strings.Cut(at, " ")
		l, why := graph.From(c, receiver, signalOf(signal))
		check(t, "From of "+at, l, why, want, api.OK)
	}
	for _, s := range []api.Signal{api.SignalNone, api.SignalCount, 255} {
		l, why := graph.From(c, "r", s)
		check(t, "From of no signal", l, why, nil, api.OK)
	}
	for _, name := range []string{"", "x", "R", "rs", "c", "e", "p", "logs"} {
		for _, s := range []api.Signal{api.SignalLog, api.SignalNone, 255} {
			l, why := graph.From(c, name, s)
			check(t, "From of what is no receiver, "+name, l, why, nil, api.ErrUnknown)
		}
	}
	c.Receivers = append(c.Receivers, comps("x")...)
	l, why := graph.From(c, "x", api.SignalLog)
	check(t, "From of what no pipeline receives from", l, why, nil, api.OK)
	l, why = graph.From(api.Config{}, "r", api.SignalLog)
	check(t, "From of nothing", l, why, nil, api.ErrUnknown)
}

func TestP132After(t *testing.T) {
	c := config("c d x", "logs/0: d > g", "logs/1: d c > e f", "logs/2: r > g d e c", "logs/3: c r > x f", "logs/4: x r > f", "traces: s > f e")
	checkAfter(t, "several", c, 0, nil, []int{2})
	checkAfter(t, "several", c, 1, nil, []int{0, 1})
	checkAfter(t, "several", c, 2, []int{0, 1, 1, 3}, []int{2, 0})
	checkAfter(t, "several", c, 3, []int{4}, []int{1})
	checkAfter(t, "several", c, 4, nil, []int{1})
	checkAfter(t, "several", c, 5, nil, []int{1, 0})
	c.Pipes[2].Exporters = []string{"c", "e", "d", "g"}
	checkAfter(t, "several, otherwise", c, 2, []int{1, 3, 0, 1}, []int{0, 2})
	checkAfter(t, "two connectors between", config("c d", "logs: r > c d", "logs/b: d c > e"), 0, []int{1, 1}, nil)
}

// TestP132Range has numbers of no pipeline.
func TestP132Range(t *testing.T) {
	for _, c := range []api.Config{{}, config(""), example(), config("", "logs: r > e", "traces: r > e")} {
		n := len(c.Pipes)
		for _, at := range []int{-1, n, n + 1, 32, 64, -1 << 63, 1<<63 - 1, 1 << 32, -1 << 32} {
			if at >= 0 && at < n {
				continue
			}
			next, own, why := graph.After(c, at)
			check(t, fmt.Sprint("After of no pipeline ", at), [][]int{next, own}, why, [][]int{nil, nil}, api.ErrRange)
			ways, why := graph.Ways(c, at)
			check(t, fmt.Sprint("Ways of no pipeline ", at), ways, why, nil, api.ErrRange)
		}
	}
}

func TestP132Ways(t *testing.T) {
	c := config("c d x", "logs/0: d > g", "logs/1: d c > e f", "logs/2: r > g d e c", "logs/3: c r > x f", "logs/4: x r > f", "traces: s > f e")
	checkWays(t, "several", c, 0, 0, 0, 1)
	checkWays(t, "several", c, 1, 1, 1, 0)
	checkWays(t, "several", c, 2, 3, 4, 2)
	checkWays(t, "several", c, 3, 0, 2, 0)
	checkWays(t, "several", c, 4, 0, 1, 0)
	checkWays(t, "several", c, 5, 1, 1, 0)
	for n := range 7 {
		for i := range n + 1 {
			checkWays(t, fmt.Sprintf("2^%d", n), doubled(n), i, 1<<(n-i))
		}
	}
	long := chain(32)
	for i := range 32 {
		checkWays(t, "a long chain", long, i, 1, 0, 0)
	}
}

// TestP132CheckFirst has configs that are not right, and no such receiver, no such pipeline.
func TestP132CheckFirst(t *testing.T) {
	c := example()
	c.Conns = append(c.Conns, comps("none")...)
	checkConfig(t, "what is not right", c, api.ErrConf)
	c = config("x", "logs: r x > e x")
	checkConfig(t, "a ring", c, api.ErrCycle)
	for _, at := range []int{-1, 0, 1} {
		if _, _, why := graph.After(c, at); why != api.ErrCycle {
			t.Errorf("After of a ring: error %d", why)
		}
		if _, why := graph.From(c, strconv.Itoa(at), 0); why != api.ErrCycle {
			t.Errorf("From of a ring: error %d", why)
		}
	}
}

// some are configs that are right.
func some(seed uint64, n int, do func(api.Config)) {
	r := rand.New(rand.NewPCG(13, seed))
	for n > 0 {
		c := someConfig(r, 1+r.IntN(9), r.IntN(6), 1+r.IntN(4))
		if r.IntN(8) == 0 {
			c = someConfig(r, 9+r.IntN(20), 3+r.IntN(10), 1+r.IntN(3))
		}
		if (model{c}).judge() == api.OK {
			do(c)
			n--
		}
	}
}

func TestP132Model(t *testing.T) {
	some(2, 1000, func(c api.Config) {
		m := model{c}
		checkOrder(t, "any config", c, m.order()...)
		ways := m.ways()
		for i, p := range c.Pipes {
			var want []uint64
			for _, n := range ways[i] {
				want = append(want, n.Uint64())
			}
			checkWays(t, brief(c), c, i, want...)
			var next, own []int
			for _, name := range p.Exporters {
				for k, q := range c.Pipes {
					if has(c.Conns, name) && slices.Contains(q.Receivers, name) {
						next = append(next, k)
					}
				}
				if has(c.Exporters, name) {
					own = append(own, slices.Index(namesOf(c.Exporters), name))
				}
			}
			checkAfter(t, brief(c), c, i, next, own)
		}
	})
}

func TestP134Order(t *testing.T) {
	some(4, 500, func(c api.Config) {
		order, why := graph.Order(c)
		place := map[int]int{}
		for i, pipe := range order {
			place[pipe] = i
		}
		if why != api.OK || len(place) != len(order) || len(order) != len(c.Pipes) {
			t.Fatalf("Order: %v, error %d of %s", order, why, brief(c))
		}
		for i, l := range (model{c}).behind() {
			for k, is := range l {
				if is && place[i] <= place[k] {
					t.Errorf("Order: %v, but %d comes behind %d of %s", order, i, k, brief(c))
				}
			}
		}
	})
}

func TestP135Somewhere(t *testing.T) {
	some(5, 500, func(c api.Config) {
		for i := range c.Pipes {
			l, why := graph.Ways(c, i)
			if why != api.OK || !slices.ContainsFunc(l, func(n uint64) bool { return n > 0 }) {
				t.Errorf("Ways of pipeline %d: %v, error %d of %s", i, l, why, brief(c))
			}
		}
	})
}

func TestP136StepByStep(t *testing.T) {
	some(6, 500, func(c api.Config) {
		for i := range c.Pipes {
			next, own, _ := graph.After(c, i)
			want := make([]uint64, len(c.Exporters))
			for _, e := range own {
				want[e]++
			}
			for _, k := range next {
				l, _ := graph.Ways(c, k)
				for e, n := range l {
					want[e] += n
				}
			}
			checkWays(t, brief(c), c, i, want...)
		}
	})
}
