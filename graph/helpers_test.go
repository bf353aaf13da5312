package graph_test

import (
	"fmt"
	"math/big"
	"math/rand/v2"
	"reflect"
	"slices"
	"strings"
	"testing"

	"penstock/api"
	"penstock/conf"
	"penstock/graph"
)

func textOf(s string) api.Node           { return api.Node{Kind: api.NodeText, Text: s} }
func listOf(l ...string) api.Node        { return api.Node{Kind: api.NodeList, List: l} }
func mapOf(l ...api.Keyed) api.Node      { return api.Node{Keys: l} }
func key(k string, n api.Node) api.Keyed { return api.Keyed{Key: k, Node: n} }
func under(k string, n api.Node) api.Node {
	return mapOf(key(k, n))
}

// parsed is the node of a config's text.
func parsed(t *testing.T, s string) api.Node {
	t.Helper()
	n, why, line := conf.Parse(s)
	if why != api.OK {
		t.Fatalf("line %d is none: %s", line, s)
	}
	return n
}

// comps are of these names, with spaces between.
func comps(names string) []api.Comp {
	var l []api.Comp
	for _, name := range strings.Fields(names) {
		l = append(l, api.Comp{Name: name})
	}
	return l
}

func procs(names string) []api.Comp {
	l := comps(names)
	for i := range l {
		l[i].Kind = "filter"
	}
	return l
}

func signalOf(name string) api.Signal {
	word, _, _ := strings.Cut(name, "/")
	return map[string]api.Signal{"traces": api.SignalTrace, "logs": api.SignalLog, "metrics": api.SignalMetric}[word]
}

// pipe is that of a text: its name, what it receives from, goes through (if there are two >), and exports to, as in "logs/b: r c > p > e".
func pipe(s string) api.Pipe {
	name, s, _ := strings.Cut(s, ":")
	parts := strings.Split(s, ">")
	p := api.Pipe{Signal: signalOf(name), Name: name, Receivers: strings.Fields(parts[0]), Exporters: strings.Fields(parts[len(parts)-1])}
	if len(parts) > 2 {
		p.Procs = strings.Fields(parts[1])
	}
	return p
}

func pipes(l ...string) []api.Pipe {
	var out []api.Pipe
	for _, s := range l {
		out = append(out, pipe(s))
	}
	return out
}

// config has the receivers r, s, the processors p, q, the connectors that are named, the exporters e, f, g.
func config(conns string, l ...string) api.Config {
	return api.Config{Receivers: comps("r s"), Procs: procs("p q"), Conns: comps(conns), Exporters: comps("e f g"), Pipes: pipes(l...)}
}

// numbered is so many names.
func numbered(name string, n int) string {
	s := ""
	for i := range n {
		s += fmt.Sprintf("%s%d ", name, i)
	}
	return s
}

// same holds a and b against each other, nil lists as empty ones.
func same(a, b any) bool { return sameOf(reflect.ValueOf(a), reflect.ValueOf(b)) }

func sameOf(a, b reflect.Value) bool {
	switch a.Kind() {
	case reflect.Struct:
		for i := range a.NumField() {
			if !sameOf(a.Field(i), b.Field(i)) {
				return false
			}
		}
		return true
	case reflect.Slice:
		for i := range min(a.Len(), b.Len()) {
			if !sameOf(a.Index(i), b.Index(i)) {
				return false
			}
		}
		return a.Len() == b.Len()
	}
	return a.Interface() == b.Interface()
}

// twin is x with memory of its own, and room behind its lists.
func twin[T any](x T) T {
	out := reflect.New(reflect.TypeFor[T]()).Elem()
	twinOf(out, reflect.ValueOf(x))
	return out.Interface().(T)
}

func twinOf(to, from reflect.Value) {
	switch from.Kind() {
	case reflect.Struct:
		for i := range from.NumField() {
			twinOf(to.Field(i), from.Field(i))
		}
	case reflect.Slice:
		to.Set(reflect.MakeSlice(from.Type(), from.Len(), from.Len()+2))
		for i := range from.Len() {
			twinOf(to.Index(i), from.Index(i))
		}
	default:
		to.Set(from)
	}
}

// eachCell hands in each element of each list of x, however deep, and the room behind.
func eachCell(x reflect.Value, do func(reflect.Value)) {
	switch x.Kind() {
	case reflect.Struct:
		for i := range x.NumField() {
			eachCell(x.Field(i), do)
		}
	case reflect.Slice:
		all := x.Slice(0, x.Cap())
		for i := range all.Len() {
			eachCell(all.Index(i), do)
			do(all.Index(i))
		}
	}
}

// checkApart tells whether a cell is there twice.
func checkApart(t *testing.T, name string, all ...any) {
	t.Helper()
	type cell struct {
		at uintptr
		of reflect.Type
	}
	taken := map[cell]int{}
	for _, x := range all {
		eachCell(reflect.ValueOf(x), func(v reflect.Value) {
			at := cell{v.Addr().Pointer(), v.Type()}
			if taken[at]++; taken[at] > 1 {
				t.Errorf("%s: lists of %v share memory", name, v.Type())
			}
		})
	}
}

func brief(x any) string {
	s := fmt.Sprintf("%+v", x)
	if len(s) > 2000 {
		s = s[:1000] + " .. " + s[len(s)-900:]
	}
	return s
}

// check tells what a call answers.
func check[T any](t *testing.T, name string, got T, why api.Errno, want T, wantWhy api.Errno) {
	t.Helper()
	if !same(got, want) || why != wantWhy {
		t.Errorf("%s: %s, error %d\nwant %s, error %d", name, brief(got), why, brief(want), wantWhy)
	}
}

func checkRead(t *testing.T, name string, n api.Node, want api.Config, wantWhy api.Errno) {
	t.Helper()
	c, why := graph.Read(n)
	check(t, "Read of "+name, c, why, want, wantWhy)
}

// checkConfig tells what Check says of c; with an error all others say that, too, and nothing else.
func checkConfig(t *testing.T, name string, c api.Config, want api.Errno) {
	t.Helper()
	if why := graph.Check(c); why != want {
		t.Errorf("Check of %s: error %d, want %d\n%s", name, why, want, brief(c))
	}
	if want == api.OK {
		return
	}
	order, why := graph.Order(c)
	check(t, "Order of "+name, order, why, nil, want)
	for _, at := range []int{-1, 0, 1, 100} {
		from, why := graph.From(c, fmt.Sprint("r", at), api.SignalLog)
		check(t, "From of "+name, from, why, nil, want)
		next, own, why := graph.After(c, at)
		check(t, "After of "+name, next, why, nil, want)
		check(t, "After's exporters of "+name, own, why, nil, want)
		ways, why := graph.Ways(c, at)
		check(t, "Ways of "+name, ways, why, nil, want)
	}
}

func checkOrder(t *testing.T, name string, c api.Config, want ...int) {
	t.Helper()
	l, why := graph.Order(c)
	check(t, "Order of "+name, l, why, want, api.OK)
}

func checkAfter(t *testing.T, name string, c api.Config, pipe int, next, own []int) {
	t.Helper()
	l, ends, why := graph.After(c, pipe)
	check(t, fmt.Sprintf("After of pipeline %d of %s", pipe, name), [][]int{l, ends}, why, [][]int{next, own}, api.OK)
}

func checkWays(t *testing.T, name string, c api.Config, pipe int, want ...uint64) {
	t.Helper()
	l, why := graph.Ways(c, pipe)
	check(t, fmt.Sprintf("Ways of pipeline %d of %s", pipe, name), l, why, want, api.OK)
}

// model is what the tests know of a config, by its names alone.
type model struct{ api.Config }

func has(l []api.Comp, name string) bool {
	return slices.ContainsFunc(l, func(x api.Comp) bool { return x.Name == name })
}

func isTwice(l []string) bool {
	l = slices.Sorted(slices.Values(l))
	return len(slices.Compact(slices.Clone(l))) < len(l)
}

func namesOf(l []api.Comp) []string {
	var out []string
	for _, x := range l {
		out = append(out, x.Name)
	}
	return out
}

// between is how many connectors lead from one pipeline to another one.
func (m model) between(from, to int) int64 {
	n := int64(0)
	for _, x := range m.Conns {
		if slices.Contains(m.Pipes[from].Exporters, x.Name) && slices.Contains(m.Pipes[to].Receivers, x.Name) {
			n++
		}
	}
	return n
}

// behind tells of each pipeline which ones it comes behind.
func (m model) behind() [][]bool {
	out := make([][]bool, len(m.Pipes))
	for i := range out {
		for k := range out {
			out[i] = append(out[i], m.between(k, i) > 0)
		}
	}
	for via := range out {
		for i := range out {
			for k := range out {
				out[i][k] = out[i][k] || out[i][via] && out[via][k]
			}
		}
	}
	return out
}

// ways are those of each pipeline to each exporter, if there is no ring: those over no pipeline more, over one, over two and so on, together.
func (m model) ways() [][]*big.Int {
	over, all := make([][]*big.Int, len(m.Pipes)), make([][]*big.Int, len(m.Pipes))
	for i, p := range m.Pipes {
		for _, x := range m.Exporters {
			n := int64(0)
			if slices.Contains(p.Exporters, x.Name) {
				n = 1
			}
			over[i], all[i] = append(over[i], big.NewInt(n)), append(all[i], big.NewInt(n))
		}
	}
	for range m.Pipes {
		next := make([][]*big.Int, len(m.Pipes))
		for i := range next {
			for e := range m.Exporters {
				sum := big.NewInt(0)
				for k := range next {
					if n := m.between(i, k); n > 0 {
						sum.Add(sum, new(big.Int).Mul(big.NewInt(n), over[k][e]))
					}
				}
				next[i] = append(next[i], sum)
				all[i][e].Add(all[i][e], sum)
			}
		}
		over = next
	}
	return all
}

func (m model) judgeComps() api.Errno {
	for _, l := range [][]api.Comp{m.Receivers, m.Procs, m.Conns, m.Exporters, make([]api.Comp, len(m.Pipes))} {
		if len(l) > 32 {
			return api.ErrMany
		}
	}
	var names []string
	for _, p := range m.Pipes {
		names = append(names, p.Name)
	}
	if isTwice(names) || isTwice(namesOf(m.Procs)) || isTwice(slices.Concat(namesOf(m.Receivers), namesOf(m.Conns), namesOf(m.Exporters))) {
		return api.ErrConf
	}
	for _, x := range m.Procs {
		if !strings.Contains(" attributes filter batch ", " "+x.Kind+" ") || x.Kind == "" {
			return api.ErrConf
		}
	}
	for _, x := range slices.Concat(m.Receivers, m.Conns, m.Exporters) {
		if x.Kind != "" {
			return api.ErrConf
		}
	}
	for _, x := range slices.Concat(m.Receivers, m.Procs, m.Conns, m.Exporters) {
		if conf.Check(x.Node) != api.OK {
			return api.ErrConf
		}
	}
	return api.OK
}

func (m model) judgePipe(p api.Pipe) api.Errno {
	if p.Signal != api.SignalTrace && p.Signal != api.SignalLog && p.Signal != api.SignalMetric {
		return api.ErrType
	}
	if len(p.Receivers) == 0 || len(p.Exporters) == 0 {
		return api.ErrConf
	}
	for _, x := range []struct {
		l     []string
		among []api.Comp
	}{{p.Receivers, slices.Concat(m.Receivers, m.Conns)}, {p.Procs, m.Procs}, {p.Exporters, slices.Concat(m.Conns, m.Exporters)}} {
		for _, name := range x.l {
			if !has(x.among, name) {
				return api.ErrUnknown
			}
		}
	}
	if isTwice(p.Receivers) || isTwice(p.Procs) || isTwice(p.Exporters) {
		return api.ErrConf
	}
	return api.OK
}

func (m model) judgeConn(name string) api.Errno {
	givers, takers := 0, 0
	signals := map[api.Signal]int{}
	for _, p := range m.Pipes {
		if slices.Contains(p.Exporters, name) {
			givers++
			signals[p.Signal]++
		}
		if slices.Contains(p.Receivers, name) {
			takers++
			signals[p.Signal]++
		}
	}
	switch {
	case givers == 0 || takers == 0:
		return api.ErrConf
	case len(signals) > 1:
		return api.ErrType
	}
	return api.OK
}

// judge is the error of a config, the first one that applies.
func (m model) judge() api.Errno {
	if why := m.judgeComps(); why != api.OK {
		return why
	}
	for _, p := range m.Pipes {
		if why := m.judgePipe(p); why != api.OK {
			return why
		}
	}
	for _, x := range m.Conns {
		if why := m.judgeConn(x.Name); why != api.OK {
			return why
		}
	}
	for i, l := range m.behind() {
		if l[i] {
			return api.ErrCycle
		}
	}
	for _, l := range m.ways() {
		sum := big.NewInt(0)
		for _, n := range l {
			sum.Add(sum, n)
		}
		if sum.Cmp(big.NewInt(64)) > 0 {
			return api.ErrMany
		}
	}
	return api.OK
}

// order is the pipelines, each time the least one of those behind which no other one is missing.
func (m model) order() []int {
	behind := m.behind()
	var out []int
	for range m.Pipes {
		for i, l := range behind {
			missing := slices.Index(l, true)
			for missing >= 0 && slices.Contains(out, missing) {
				l = slices.Clone(l)
				l[missing] = false
				missing = slices.Index(l, true)
			}
			if missing < 0 && !slices.Contains(out, i) {
				out = append(out, i)
				break
			}
		}
	}
	return out
}

func pick[T any](r *rand.Rand, l ...T) T { return l[r.IntN(len(l))] }

// someNames are some of the names, each once.
func someNames(r *rand.Rand, l []string, most int) []string {
	l = slices.Clone(l)
	r.Shuffle(len(l), func(i, k int) { l[i], l[k] = l[k], l[i] })
	return l[:min(len(l), r.IntN(most+1))]
}

// someConfig is mostly right: pipelines are in a row of their own, and each connector has a place in it, ahead of which it is exported to, and behind which it is received from.
func someConfig(r *rand.Rand, pipelines, connectors, exporters int) api.Config {
	c := api.Config{Receivers: comps(numbered("r", 3)), Procs: procs(numbered("p", 3)), Conns: comps(numbered("c", connectors)), Exporters: comps(numbered("e", exporters))}
	row := r.Perm(pipelines)
	cuts := make([]int, connectors)
	for i := range cuts {
		cuts[i] = 1 + r.IntN(max(1, pipelines-1))
	}
	signal := pick(r, "traces", "logs", "metrics")
	for i, at := range row {
		p := pipe(fmt.Sprintf("%s/%d: > %s >", signal, i, strings.Join(someNames(r, namesOf(c.Procs), 2), " ")))
		p.Receivers = someNames(r, namesOf(c.Receivers), 2)
		p.Exporters = someNames(r, namesOf(c.Exporters), 2)
		for k, x := range c.Conns {
			isAhead := at < cuts[k]
			if r.IntN(300) == 0 {
				isAhead = !isAhead
			}
			if isAhead && r.IntN(2) == 0 {
				p.Exporters = append(p.Exporters, x.Name)
			}
			if !isAhead && r.IntN(2) == 0 {
				p.Receivers = append(p.Receivers, x.Name)
			}
		}
		if len(p.Receivers) == 0 {
			p.Receivers = []string{"r0"}
		}
		if len(p.Exporters) == 0 {
			p.Exporters = []string{"e0"}
		}
		c.Pipes = append(c.Pipes, p)
	}
	return c
}

// spoiled is c with something in it that may be wrong.
func spoiled(r *rand.Rand, c api.Config) api.Config {
	c = twin(c)
	p := &c.Pipes[r.IntN(len(c.Pipes))]
	switch r.IntN(12) {
	case 0:
		p.Signal = pick(r, api.SignalNone, api.SignalTrace, api.SignalLog, api.SignalMetric, api.SignalCount, 255)
	case 1:
		p.Receivers = pick(r, nil, []string{"x"}, []string{"e0"}, []string{"p0"}, slices.Concat(p.Receivers, p.Receivers))
	case 2:
		p.Exporters = pick(r, nil, []string{"x"}, []string{"r0"}, []string{"p0"}, slices.Concat(p.Exporters, p.Exporters))
	case 3:
		p.Procs = pick(r, nil, []string{"x"}, []string{"r0"}, []string{"p0", "p1", "p0"})
	case 4:
		p.Name = pick(r, "", c.Pipes[0].Name)
	case 5:
		c.Receivers = append(c.Receivers, api.Comp{Name: pick(r, "", "r0", "c0", "e0", "p0")})
	case 6:
		c.Procs = append(c.Procs, api.Comp{Name: pick(r, "", "r0", "c0", "e0", "p0"), Kind: pick(r, "", "batch", "attributes", "other")})
	case 7:
		c.Conns = append(c.Conns, api.Comp{Name: pick(r, "", "r0", "c9", "e0", "p0"), Kind: pick(r, "", "", "batch")})
	case 8:
		c.Exporters = append(c.Exporters, api.Comp{Name: pick(r, "", "r0", "c0", "e9", "p0"), Node: pick(r, mapOf(), textOf(""), under("", mapOf()))})
	case 9:
		c.Exporters = append(c.Exporters, comps(numbered("f", r.IntN(40)))...)
	case 10:
		p.Receivers = append(p.Receivers, "c0")
	case 11:
		p.Exporters = append(p.Exporters, "c0")
	}
	return c
}
