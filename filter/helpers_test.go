package filter_test

import (
	"fmt"
	"math"
	"math/rand/v2"
	"reflect"
	"strconv"
	"strings"
	"testing"

	"penstock/api"
	"penstock/filter"
)

const (
	trace = "0123456789abcdef"
	span  = "01234567"
)

var minus = math.Copysign(0, -1)

// Values, and what they are in.

func text(s string) api.Value       { return api.Value{Kind: api.KindText, S: s} }
func whole(n int64) api.Value       { return api.Value{Kind: api.KindInt, N: n} }
func truth(b bool) api.Value        { return api.Value{Kind: api.KindBool, B: b} }
func part(f float64) api.Value      { return api.Value{Kind: api.KindFloat, F: f} }
func bytes(s string) api.Value      { return api.Value{Kind: api.KindBytes, S: s} }
func list(l ...api.Value) api.Value { return api.Value{Kind: api.KindList, List: l} }
func table(l ...api.Pair) api.Value { return api.Value{Kind: api.KindMap, Pairs: l} }

func pair(key string, v api.Value) api.Pair { return api.Pair{Key: key, Value: v} }
func pairs(l ...api.Pair) []api.Pair        { return l }

func textNode(s string) api.Node         { return api.Node{Kind: api.NodeText, Text: s} }
func listNode(l ...string) api.Node      { return api.Node{Kind: api.NodeList, List: l} }
func mapNode(l ...api.Keyed) api.Node    { return api.Node{Keys: l} }
func key(k string, n api.Node) api.Keyed { return api.Keyed{Key: k, Node: n} }

// dropNode is a processor's, with that text of a predicate.
func dropNode(s string) api.Node {
	return mapNode(key("kind", textNode("filter")), key("drop", textNode(s)))
}

// Steps of predicates.

func steps(l ...api.PredStep) []api.PredStep { return l }

func op(k api.PredKind) api.PredStep             { return api.PredStep{Kind: k} }
func said(k api.PredKind, s string) api.PredStep { return api.PredStep{Kind: k, Text: s} }
func inField(s string) api.PredStep              { return said(api.PredField, s) }
func ofItem(s string) api.PredStep               { return said(api.PredAttr, s) }
func ofResource(s string) api.PredStep           { return said(api.PredResource, s) }
func aText(s string) api.PredStep                { return said(api.PredText, s) }
func anInt(n int64) api.PredStep                 { return api.PredStep{Kind: api.PredInt, N: n} }
func infinite(n int64) api.PredStep              { return api.PredStep{Kind: api.PredInf, N: n} }
func aFloat(n int64, places int) api.PredStep {
	return api.PredStep{Kind: api.PredFloat, N: n, Places: places}
}
func both(a, b []api.PredStep, k api.PredKind) []api.PredStep {
	var l []api.PredStep
	l = append(append(l, a...), b...)
	return append(l, op(k))
}

// Operands and operators that have nothing.
var (
	yes = op(api.PredTrue)
	no  = op(api.PredFalse)
	nan = op(api.PredNaN)
	has = op(api.PredHas)
	eq  = op(api.PredEqual)
	ne  = op(api.PredUnlike)
	not = op(api.PredNot)
	and = op(api.PredAnd)
	or  = op(api.PredOr)
)

func fieldNames() []string {
	return []string{"name", "unit", "message", "kind", "start", "time", "code", "trace", "span", "parent", "body", "value"}
}

// sixWords are the operators between operands, PredEqual being the first one.
func sixWords() []string { return []string{"==", "!=", "<", "<=", ">", ">="} }

func signals() []api.Signal {
	return []api.Signal{api.SignalTrace, api.SignalLog, api.SignalMetric}
}

// item is right in the signal.
func item(s api.Signal, name string, l ...api.Pair) api.Item {
	x := api.Item{Name: name, Time: 7, Attrs: l}
	switch s {
	case api.SignalTrace:
		x.Trace, x.Span = trace, span
	case api.SignalLog:
		x.Body = table(pair("a", list(text("body"))))
	case api.SignalMetric:
		x.Kind, x.Point = api.MetricHist, api.Point{Kind: api.PointHist, Count: 3, Counts: []uint64{1, 2}, Bounds: []float64{1}}
	}
	return x
}

// data is of a signal, its groups' items having these names: "a b".
func data(s api.Signal, groups ...string) api.Data {
	d := api.Data{Signal: s}
	for i, names := range groups {
		g := api.Group{Resource: pairs(pair("group", whole(int64(i)))), Scope: "s", Version: "1", Attrs: pairs(pair("x", list(text("scope"))))}
		for _, name := range strings.Fields(names) {
			g.Items = append(g.Items, item(s, name, pair("name", text(name))))
		}
		d.Groups = append(d.Groups, g)
	}
	return d
}

// same holds a and b against each other: floats by their bits, nil lists as empty ones.
func same(a, b any) bool { return sameOf(reflect.ValueOf(a), reflect.ValueOf(b)) }

func sameOf(a, b reflect.Value) bool {
	switch a.Kind() {
	case reflect.Struct:
		for i := range a.NumField() {
			if !sameOf(a.Field(i), b.Field(i)) {
				return false
			}
		}
		return true
	case reflect.Slice:
		for i := range min(a.Len(), b.Len()) {
			if !sameOf(a.Index(i), b.Index(i)) {
				return false
			}
		}
		return a.Len() == b.Len()
	case reflect.Float64:
		return math.Float64bits(a.Float()) == math.Float64bits(b.Float())
	}
	return a.Interface() == b.Interface()
}

// twin is x with memory of its own, and room behind its lists.
func twin[T any](x T) T {
	out := reflect.New(reflect.TypeFor[T]()).Elem()
	twinOf(out, reflect.ValueOf(x))
	return out.Interface().(T)
}

func twinOf(to, from reflect.Value) {
	switch from.Kind() {
	case reflect.Struct:
		for i := range from.NumField() {
			twinOf(to.Field(i), from.Field(i))
		}
	case reflect.Slice:
		to.Set(reflect.MakeSlice(from.Type(), from.Len(), from.Len()+2))
		for i := range from.Len() {
			twinOf(to.Index(i), from.Index(i))
		}
	default:
		to.Set(from)
	}
}

// eachCell hands in each element of each list of x, however deep, and the room behind.
func eachCell(x reflect.Value, do func(reflect.Value)) {
	switch x.Kind() {
	case reflect.Struct:
		for i := range x.NumField() {
			eachCell(x.Field(i), do)
		}
	case reflect.Slice:
		all := x.Slice(0, x.Cap())
		for i := range all.Len() {
			eachCell(all.Index(i), do)
			do(all.Index(i))
		}
	}
}

// spoil writes over all elements of all lists of x, and what lies behind them.
func spoil(x any) {
	eachCell(reflect.ValueOf(x), func(v reflect.Value) { v.SetZero() })
}

// checkApart tells whether a cell is there twice.
func checkApart(t *testing.T, name string, all ...any) {
	t.Helper()
	type cell struct {
		at uintptr
		of reflect.Type
	}
	taken := map[cell]int{}
	for _, x := range all {
		eachCell(reflect.ValueOf(x), func(v reflect.Value) {
			at := cell{v.Addr().Pointer(), v.Type()}
			if taken[at]++; taken[at] > 1 {
				t.Errorf("%s: lists of %v share memory", name, v.Type())
			}
		})
	}
}

func brief(x any) string {
	s := fmt.Sprintf("%+v", x)
	if l, is := x.(string); is {
		s = strconv.Quote(l)
	}
	if len(s) > 1200 {
		s = s[:700] + " .. " + s[len(s)-400:]
	}
	return s
}

// check tells what a call answers.
func check[T any](t *testing.T, name string, got T, why api.Errno, want T, wantWhy api.Errno) {
	t.Helper()
	if !same(got, want) || why != wantWhy {
		t.Errorf("%s: %s, error %d\nwant %s, error %d", name, brief(got), why, brief(want), wantWhy)
	}
}

func checkParse(t *testing.T, s string, want []api.PredStep, wantWhy api.Errno) {
	t.Helper()
	l, why := filter.Parse(s)
	check(t, "Parse of "+brief(s), l, why, want, wantWhy)
}

func checkPrint(t *testing.T, l []api.PredStep, want string, wantWhy api.Errno) {
	t.Helper()
	s, why := filter.Print(l)
	check(t, "Print of "+brief(l), s, why, want, wantWhy)
}

func checkHolds(t *testing.T, s string, x api.Item, resource []api.Pair, want bool) {
	t.Helper()
	l, why := filter.Parse(s)
	if why != api.OK {
		t.Fatalf("Parse of %s: error %d", brief(s), why)
	}
	is, why := filter.Holds(l, x, resource)
	if is != want || why != api.OK { // only then the names are written, since they are many
		t.Errorf("%s of %s, %s: %v, error %d", s, brief(x), brief(resource), is, why)
	}
}

func checkDrop(t *testing.T, name string, d api.Data, l []api.PredStep, want api.Data, wantCount int, wantWhy api.Errno) {
	t.Helper()
	got, n, why := filter.Drop(d, l)
	check(t, "Drop of "+name, got, why, want, wantWhy)
	check(t, "Drop's number of "+name, n, why, wantCount, wantWhy)
}

func pick[T any](r *rand.Rand, l ...T) T { return l[r.IntN(len(l))] }
