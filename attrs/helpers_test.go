package attrs_test

import (
	"fmt"
	"hash/fnv"
	"math"
	"math/rand/v2"
	"reflect"
	"strconv"
	"strings"
	"testing"

	"penstock/api"
	"penstock/attrs"
	"penstock/value"
)

var minus = math.Copysign(0, -1)

func text(s string) api.Value       { return api.Value{Kind: api.KindText, S: s} }
func whole(n int64) api.Value       { return api.Value{Kind: api.KindInt, N: n} }
func truth(b bool) api.Value        { return api.Value{Kind: api.KindBool, B: b} }
func part(f float64) api.Value      { return api.Value{Kind: api.KindFloat, F: f} }
func bits(n uint64) api.Value       { return part(math.Float64frombits(n)) }
func bytes(s string) api.Value      { return api.Value{Kind: api.KindBytes, S: s} }
func list(l ...api.Value) api.Value { return api.Value{Kind: api.KindList, List: l} }
func table(l ...api.Pair) api.Value { return api.Value{Kind: api.KindMap, Pairs: l} }

func pair(key string, v api.Value) api.Pair { return api.Pair{Key: key, Value: v} }
func pairs(l ...api.Pair) []api.Pair        { return l }

func insert(key string, v api.Value) api.Action {
	return api.Action{Kind: api.ActionInsert, Key: key, Value: v}
}

func update(key string, v api.Value) api.Action {
	return api.Action{Kind: api.ActionUpdate, Key: key, Value: v}
}

func upsert(key string, v api.Value) api.Action {
	return api.Action{Kind: api.ActionUpsert, Key: key, Value: v}
}

func remove(key string) api.Action { return api.Action{Kind: api.ActionDelete, Key: key} }
func hash(key string) api.Action   { return api.Action{Kind: api.ActionHash, Key: key} }

func items(l ...api.Action) api.Attrs { return api.Attrs{Actions: l} }

func resources(l ...api.Action) api.Attrs { return api.Attrs{Resource: true, Actions: l} }

// numbered is so many pairs, k0 to its number.
func numbered(n int) []api.Pair {
	var l []api.Pair
	for i := range n {
		l = append(l, pair("k"+strconv.Itoa(i), whole(int64(i))))
	}
	return l
}

// digest is what a hash of v is.
func digest(v api.Value) api.Value {
	s, _ := value.Write(v)
	h := fnv.New64a()
	h.Write([]byte(s))
	return text(fmt.Sprintf("%016x", h.Sum64()))
}

func textNode(s string) api.Node         { return api.Node{Kind: api.NodeText, Text: s} }
func listNode(l ...string) api.Node      { return api.Node{Kind: api.NodeList, List: l} }
func mapNode(l ...api.Keyed) api.Node    { return api.Node{Keys: l} }
func key(k string, n api.Node) api.Keyed { return api.Keyed{Key: k, Node: n} }

// actionsNode is a processor's, with these texts of actions.
func actionsNode(l ...string) api.Node {
	return mapNode(key("kind", textNode("attributes")), key("actions", listNode(l...)))
}

// same holds a and b against each other: floats by their bits, nil lists as empty ones.
func same(a, b any) bool { return sameOf(reflect.ValueOf(a), reflect.ValueOf(b)) }

func sameOf(a, b reflect.Value) bool {
	switch a.Kind() {
	case reflect.Struct:
		for i := range a.NumField() {
			if !sameOf(a.Field(i), b.Field(i)) {
				return false
			}
		}
		return true
	case reflect.Slice:
		for i := range min(a.Len(), b.Len()) {
			if !sameOf(a.Index(i), b.Index(i)) {
				return false
			}
		}
		return a.Len() == b.Len()
	case reflect.Float64:
		return math.Float64bits(a.Float()) == math.Float64bits(b.Float())
	}
	return a.Interface() == b.Interface()
}

// twin is x with memory of its own, and room behind its lists.
func twin[T any](x T) T {
	out := reflect.New(reflect.TypeFor[T]()).Elem()
	twinOf(out, reflect.ValueOf(x))
	return out.Interface().(T)
}

func twinOf(to, from reflect.Value) {
	switch from.Kind() {
	case reflect.Struct:
		for i := range from.NumField() {
			twinOf(to.Field(i), from.Field(i))
		}
	case reflect.Slice:
		to.Set(reflect.MakeSlice(from.Type(), from.Len(), from.Len()+2))
		for i := range from.Len() {
			twinOf(to.Index(i), from.Index(i))
		}
	default:
		to.Set(from)
	}
}

// eachCell hands in each element of each list of x, however deep, and the room behind.
func eachCell(x reflect.Value, do func(reflect.Value)) {
	switch x.Kind() {
	case reflect.Struct:
		for i := range x.NumField() {
			eachCell(x.Field(i), do)
		}
	case reflect.Slice:
		all := x.Slice(0, x.Cap())
		for i := range all.Len() {
			eachCell(all.Index(i), do)
			do(all.Index(i))
		}
	}
}

// spoil writes over all elements of all lists of x, and what lies behind them.
func spoil(x any) {
	eachCell(reflect.ValueOf(x), func(v reflect.Value) { v.SetZero() })
}

// checkApart tells whether a cell is there twice.
func checkApart(t *testing.T, name string, all ...any) {
	t.Helper()
	type cell struct {
		at uintptr
		of reflect.Type
	}
	taken := map[cell]int{}
	for _, x := range all {
		eachCell(reflect.ValueOf(x), func(v reflect.Value) {
			at := cell{v.Addr().Pointer(), v.Type()}
			if taken[at]++; taken[at] > 1 {
				t.Errorf("%s: lists of %v share memory", name, v.Type())
			}
		})
	}
}

func brief(x any) string {
	s := fmt.Sprintf("%+v", x)
	if len(s) > 1200 {
		s = s[:700] + " .. " + s[len(s)-400:]
	}
	return s
}

// check tells what a call answers.
func check[T any](t *testing.T, name string, got T, why api.Errno, want T, wantWhy api.Errno) {
	t.Helper()
	if !same(got, want) || why != wantWhy {
		t.Errorf("%s: %s, error %d\nwant %s, error %d", name, brief(got), why, brief(want), wantWhy)
	}
}

func checkRead(t *testing.T, name string, n api.Node, want api.Attrs, wantWhy api.Errno) {
	t.Helper()
	a, why := attrs.Read(n)
	check(t, "Read of "+name, a, why, want, wantWhy)
}

func checkPairs(t *testing.T, name string, l []api.Pair, a api.Attrs, want []api.Pair, wantWhy api.Errno) {
	t.Helper()
	got, why := attrs.Pairs(l, a)
	check(t, "Pairs of "+name, got, why, want, wantWhy)
}

func checkApply(t *testing.T, name string, d api.Data, a api.Attrs, want api.Data, wantWhy api.Errno) {
	t.Helper()
	got, why := attrs.Apply(d, a)
	check(t, "Apply of "+name, got, why, want, wantWhy)
}

// data is of a signal, with items that have these attributes, in groups that have a resource with the key r.
func data(s api.Signal, groups ...[][]api.Pair) api.Data {
	d := api.Data{Signal: s}
	for i, l := range groups {
		g := api.Group{Resource: pairs(pair("r", whole(int64(i))), pair("a", text("resource"))), Scope: "s", Version: "1", Attrs: pairs(pair("a", text("scope")))}
		for k, attrs := range l {
			g.Items = append(g.Items, item(s, strconv.Itoa(k), attrs))
		}
		d.Groups = append(d.Groups, g)
	}
	return d
}

func item(s api.Signal, name string, l []api.Pair) api.Item {
	x := api.Item{Name: name, Time: 7, Attrs: l}
	switch s {
	case api.SignalTrace:
		x.Trace, x.Span = "0123456789abcdef", "01234567"
	case api.SignalLog:
		x.Body = table(pair("a", list(text("body"))))
	case api.SignalMetric:
		x.Kind, x.Point = api.MetricHist, api.Point{Kind: api.PointHist, Count: 3, Counts: []uint64{1, 2}, Bounds: []float64{1}}
	}
	return x
}

func signals() []api.Signal {
	return []api.Signal{api.SignalTrace, api.SignalLog, api.SignalMetric}
}

func pick[T any](r *rand.Rand, l ...T) T { return l[r.IntN(len(l))] }

// someValue is right, and not of KindNone.
func someValue(r *rand.Rand, deep int) api.Value {
	v := api.Value{Kind: api.Kind(1 + r.IntN(7))}
	switch v.Kind {
	case api.KindText:
		v.S = pick(r, "", "x", "x y", " ", "é\n", "text:x", strings.Repeat("x", r.IntN(30)))
	case api.KindBool:
		v.B = r.IntN(2) == 0
	case api.KindInt:
		v.N = pick(r, 0, 1, -1, 1<<62, -1<<62, int64(r.Uint64()), int64(r.Uint64()>>3))
	case api.KindFloat:
		v.F = math.Float64frombits(pick(r, 0, 1<<63, r.Uint64(), 0x7ff<<52, 0x7ff<<52+1, 0xfff8<<48))
	case api.KindBytes:
		v.S = pick(r, "", "\xff", "x")
	case api.KindList:
		for range r.IntN(3) * min(deep, 1) {
			v.List = append(v.List, someValue(r, deep-1))
		}
	case api.KindMap:
		for i := range r.IntN(3) * min(deep, 1) {
			v.Pairs = append(v.Pairs, pair(strconv.Itoa(i), someValue(r, deep-1)))
		}
	}
	return v
}

func someKey(r *rand.Rand) string { return pick(r, "a", "b", "c", "", "d e", "é") }

func someAction(r *rand.Rand) api.Action {
	switch r.IntN(5) {
	case 0:
		return insert(someKey(r), someValue(r, 2))
	case 1:
		return update(someKey(r), someValue(r, 2))
	case 2:
		return upsert(someKey(r), someValue(r, 2))
	case 3:
		return remove(someKey(r))
	}
	return hash(someKey(r))
}

func someActions(r *rand.Rand, n int) []api.Action {
	var l []api.Action
	for range r.IntN(n + 1) {
		l = append(l, someAction(r))
	}
	return l
}

// somePairs are right.
func somePairs(r *rand.Rand) []api.Pair {
	var l []api.Pair
	for range r.IntN(5) {
		l = value.Put(l, someKey(r), pick(r, someValue(r, 2), api.Value{}))
	}
	return l
}

func someData(r *rand.Rand) api.Data {
	d := api.Data{Signal: pick(r, signals()...)}
	for range r.IntN(4) {
		g := api.Group{Resource: somePairs(r), Scope: pick(r, "", "s"), Attrs: somePairs(r)}
		for range r.IntN(4) {
			g.Items = append(g.Items, item(d.Signal, "x", somePairs(r)))
		}
		d.Groups = append(d.Groups, g)
	}
	return d
}

// model does actions with a list of keys and a map of values.
func model(l []api.Pair, actions []api.Action) []api.Pair {
	var keys []string
	values := map[string]api.Value{}
	put := func(k string, v api.Value) {
		if _, is := values[k]; !is {
			keys = append(keys, k)
		}
		values[k] = v
	}
	for _, p := range l {
		put(p.Key, p.Value)
	}
	for _, a := range actions {
		v, is := values[a.Key]
		switch {
		case a.Kind == api.ActionInsert && !is, a.Kind == api.ActionUpdate && is, a.Kind == api.ActionUpsert:
			put(a.Key, a.Value)
		case a.Kind == api.ActionHash && is:
			put(a.Key, digest(v))
		case a.Kind == api.ActionDelete && is:
			delete(values, a.Key)
			var left []string
			for _, k := range keys {
				if k != a.Key {
					left = append(left, k)
				}
			}
			keys = left
		}
	}
	var out []api.Pair
	for _, k := range keys {
		out = append(out, pair(k, values[k]))
	}
	return out
}
