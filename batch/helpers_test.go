package batch_test

import (
	"fmt"
	"math"
	"math/rand/v2"
	"reflect"
	"slices"
	"strconv"
	"strings"
	"testing"

	"penstock/api"
	"penstock/batch"
)

func textNode(s string) api.Node         { return api.Node{Kind: api.NodeText, Text: s} }
func listNode(l ...string) api.Node      { return api.Node{Kind: api.NodeList, List: l} }
func mapNode(l ...api.Keyed) api.Node    { return api.Node{Keys: l} }
func key(k string, n api.Node) api.Keyed { return api.Keyed{Key: k, Node: n} }

// node is a processor's, with these keys, a text's behind its colon: "size:8".
func node(l ...string) api.Node {
	n := mapNode()
	for _, s := range l {
		k, text, _ := strings.Cut(s, ":")
		n.Keys = append(n.Keys, key(k, textNode(text)))
	}
	return n
}

func rules(size, most int, wait uint64) api.BatchRules {
	return api.BatchRules{Size: size, Max: most, Wait: wait}
}

// one is an item of the signal that is right.
func one(s api.Signal, name string) api.Item {
	x := api.Item{Name: name}
	switch s {
	case api.SignalTrace:
		x.Trace, x.Span = "0123456789abcdef", "01234567"
	case api.SignalMetric:
		x.Kind, x.Point = api.MetricHist, api.Point{Kind: api.PointHist, Count: 3, Counts: []uint64{1, 2}, Bounds: []float64{1}}
	}
	return x
}

// data is of a signal, with items of these names, a group's scope behind its colon: "a:1 2".
func data(s api.Signal, groups ...string) api.Data {
	d := api.Data{Signal: s}
	for _, g := range groups {
		scope, names, _ := strings.Cut(g, ":")
		x := api.Group{Scope: scope}
		for _, name := range strings.Fields(names) {
			x.Items = append(x.Items, one(s, name))
		}
		d.Groups = append(d.Groups, x)
	}
	return d
}

func logs(groups ...string) api.Data { return data(api.SignalLog, groups...) }

// told is the opposite of data.
func told(d api.Data) []string {
	var out []string
	for _, g := range d.Groups {
		var names []string
		for _, x := range g.Items {
			names = append(names, x.Name)
		}
		out = append(out, g.Scope+":"+strings.Join(names, " "))
	}
	return out
}

// numbered is the names from one number to ahead of another one.
func numbered(from, to int) string {
	var l []string
	for i := from; i < to; i++ {
		l = append(l, strconv.Itoa(i))
	}
	return strings.Join(l, " ")
}

// scopes are so many groups of one item, their scopes numbered from one on.
func scopes(from, n int) []string {
	var l []string
	for i := range n {
		l = append(l, fmt.Sprintf("s%d:i%d", from+i, from+i))
	}
	return l
}

func held(since uint64, groups ...string) api.Batch {
	return api.Batch{Held: logs(groups...), Since: since}
}

func signals() []api.Signal {
	return []api.Signal{api.SignalTrace, api.SignalLog, api.SignalMetric}
}

// same holds a and b against each other: floats by their bits, nil lists as empty ones.
func same(a, b any) bool { return sameOf(reflect.ValueOf(a), reflect.ValueOf(b)) }

func sameOf(a, b reflect.Value) bool {
	switch a.Kind() {
	case reflect.Struct:
		for i := range a.NumField() {
			if !sameOf(a.Field(i), b.Field(i)) {
				return false
			}
		}
		return true
	case reflect.Slice:
		for i := range min(a.Len(), b.Len()) {
			if !sameOf(a.Index(i), b.Index(i)) {
				return false
			}
		}
		return a.Len() == b.Len()
	case reflect.Float64:
		return math.Float64bits(a.Float()) == math.Float64bits(b.Float())
	}
	return a.Interface() == b.Interface()
}

// twin is x with memory of its own, and room behind its lists.
func twin[T any](x T) T {
	out := reflect.New(reflect.TypeFor[T]()).Elem()
	twinOf(out, reflect.ValueOf(x))
	return out.Interface().(T)
}

func twinOf(to, from reflect.Value) {
	switch from.Kind() {
	case reflect.Struct:
		for i := range from.NumField() {
			twinOf(to.Field(i), from.Field(i))
		}
	case reflect.Slice:
		to.Set(reflect.MakeSlice(from.Type(), from.Len(), from.Len()+2))
		for i := range from.Len() {
			twinOf(to.Index(i), from.Index(i))
		}
	default:
		to.Set(from)
	}
}

// eachCell hands in each element of each list of x, however deep, and the room behind.
func eachCell(x reflect.Value, do func(reflect.Value)) {
	switch x.Kind() {
	case reflect.Struct:
		for i := range x.NumField() {
			eachCell(x.Field(i), do)
		}
	case reflect.Slice:
		all := x.Slice(0, x.Cap())
		for i := range all.Len() {
			eachCell(all.Index(i), do)
			do(all.Index(i))
		}
	}
}

// spoil writes over all elements of all lists of x, and what lies behind them.
func spoil(x any) {
	eachCell(reflect.ValueOf(x), func(v reflect.Value) { v.SetZero() })
}

// checkApart tells whether a cell is there twice.
func checkApart(t *testing.T, name string, all ...any) {
	t.Helper()
	type cell struct {
		at uintptr
		of reflect.Type
	}
	taken := map[cell]int{}
	for _, x := range all {
		eachCell(reflect.ValueOf(x), func(v reflect.Value) {
			at := cell{v.Addr().Pointer(), v.Type()}
			if taken[at]++; taken[at] > 1 {
				t.Errorf("%s: lists of %v share memory", name, v.Type())
			}
		})
	}
}

// answer is what Add, Tick and Flush answer.
type answer struct {
	Batch api.Batch
	Gone  []api.Data
	Why   api.Errno
}

func add(b api.Batch, r api.BatchRules, d api.Data, now uint64) answer {
	var x answer
	x.Batch, x.Gone, x.Why = batch.Add(b, r, d, now)
	return x
}

func tick(b api.Batch, r api.BatchRules, now uint64) answer {
	var x answer
	x.Batch, x.Gone, x.Why = batch.Tick(b, r, now)
	return x
}

func flush(b api.Batch, r api.BatchRules) answer {
	var x answer
	x.Batch, x.Gone, x.Why = batch.Flush(b, r)
	return x
}

// stays is an answer of which nothing goes.
func stays(b api.Batch) answer { return answer{Batch: b} }

// goes is an answer of which these go, and what is held then.
func goes(b api.Batch, l ...api.Data) answer { return answer{Batch: b, Gone: l} }

func refused(why api.Errno) answer { return answer{Why: why} }

func (x answer) String() string {
	var l []string
	for _, d := range x.Gone {
		l = append(l, fmt.Sprint(d.Signal, told(d)))
	}
	s := fmt.Sprintf("error %d, gone %v, held %d %v since %d", x.Why, l, x.Batch.Held.Signal, told(x.Batch.Held), x.Batch.Since)
	if len(s) > 1500 {
		s = s[:900] + " .. " + s[len(s)-500:]
	}
	return s
}

func check(t *testing.T, name string, got, want answer) {
	t.Helper()
	if !same(got, want) {
		t.Errorf("%s: %v\nwant %v", name, got, want)
	}
}

func pick[T any](r *rand.Rand, l ...T) T { return l[r.IntN(len(l))] }

// model has groups as names, by no package of the program.
type model struct {
	size, most int
	wait       uint64
	groups     []scoped
	since      uint64
	gone       [][]scoped
}

// scoped is a group.
type scoped struct {
	scope string
	names []string
}

func scopedOf(d api.Data) []scoped {
	var l []scoped
	for _, s := range told(d) {
		scope, names, _ := strings.Cut(s, ":")
		l = append(l, scoped{scope, strings.Fields(names)})
	}
	return l
}

// together has each scope once, at its first place; those without names are left out behind that.
func together(l ...[]scoped) []scoped {
	var out []scoped
	for _, g := range slices.Concat(l...) {
		at := slices.IndexFunc(out, func(o scoped) bool { return o.scope == g.scope })
		if at < 0 {
			at = len(out)
			out = append(out, scoped{scope: g.scope})
		}
		out[at].names = append(slices.Clone(out[at].names), g.names...)
	}
	return slices.DeleteFunc(out, func(g scoped) bool { return len(g.names) == 0 })
}

func count(l []scoped) int {
	n := 0
	for _, g := range l {
		n += len(g.names)
	}
	return n
}

// send lets go one batch.
func (m *model) send() {
	var part, rest []scoped
	room := m.most
	for _, g := range m.groups {
		n := min(room, len(g.names))
		if n > 0 {
			part = append(part, scoped{g.scope, g.names[:n]})
		}
		if n < len(g.names) {
			rest = append(rest, scoped{g.scope, g.names[n:]})
		}
		room -= n
	}
	m.gone, m.groups = append(m.gone, part), rest
}

func (m *model) flush() {
	for count(m.groups) > 0 {
		m.send()
	}
	m.since = 0
}

func (m *model) add(l []scoped, now uint64) {
	l = together(l)
	if both := together(m.groups, l); count(both) > api.MaxItems || len(both) > api.MaxGroups {
		m.flush()
	}
	if count(m.groups) == 0 {
		m.since = now
	}
	m.groups = together(m.groups, l)
	for count(m.groups) >= m.size {
		m.send()
	}
	if count(m.groups) == 0 {
		m.since = 0
	}
}

func (m *model) tick(now uint64) {
	if count(m.groups) > 0 && now >= m.since && now-m.since >= m.wait {
		m.flush()
	}
}

// answer is what the program should answer.
func (m *model) answer(s api.Signal) answer {
	toData := func(l []scoped) api.Data {
		var groups []string
		for _, g := range l {
			groups = append(groups, g.scope+":"+strings.Join(g.names, " "))
		}
		return data(s, groups...)
	}
	x := answer{}
	if len(m.groups) > 0 {
		x.Batch = api.Batch{Held: toData(m.groups), Since: m.since}
	}
	for _, l := range m.gone {
		x.Gone = append(x.Gone, toData(l))
	}
	m.gone = nil
	return x
}
