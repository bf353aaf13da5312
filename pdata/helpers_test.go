package pdata_test

import (
	"math"
	"math/rand/v2"
	"reflect"
	"strconv"
	"strings"
	"testing"

	"penstock/api"
)

const (
	trace = "0123456789abcdef"
	span  = "01234567"
)

var minus = math.Copysign(0, -1)

func text(s string) api.Value { return api.Value{Kind: api.KindText, S: s} }
func whole(n int64) api.Value { return api.Value{Kind: api.KindInt, N: n} }

func list(l ...api.Value) api.Value { return api.Value{Kind: api.KindList, List: l} }
func table(l ...api.Pair) api.Value { return api.Value{Kind: api.KindMap, Pairs: l} }

func pair(key string, v api.Value) api.Pair { return api.Pair{Key: key, Value: v} }
func pairs(l ...api.Pair) []api.Pair        { return l }

// nested is so many lists, one in another.
func nested(n int) api.Value {
	v := whole(1)
	for range n {
		v = list(v)
	}
	return v
}

func aSpan(name string) api.Item { return api.Item{Name: name, Trace: trace, Span: span} }
func aLog(name string) api.Item  { return api.Item{Name: name} }

func aGauge(name string) api.Item {
	return api.Item{Name: name, Kind: api.MetricGauge, Point: api.Point{Kind: api.PointInt, N: 1}}
}

// one is an item of the signal that is right.
func one(s api.Signal, name string) api.Item {
	switch s {
	case api.SignalTrace:
		return aSpan(name)
	case api.SignalLog:
		return aLog(name)
	}
	return aGauge(name)
}

func group(scope string, l ...api.Item) api.Group { return api.Group{Scope: scope, Items: l} }

func data(s api.Signal, l ...api.Group) api.Data { return api.Data{Signal: s, Groups: l} }

// logs is data of log records of these names, a scope's behind its colon: "a:1 2".
func logs(groups ...string) api.Data {
	d := data(api.SignalLog)
	for _, g := range groups {
		scope, names, _ := strings.Cut(g, ":")
		d.Groups = append(d.Groups, group(scope))
		for _, name := range strings.Fields(names) {
			last := &d.Groups[len(d.Groups)-1]
			last.Items = append(last.Items, aLog(name))
		}
	}
	return d
}

// told is the opposite of logs.
func told(d api.Data) []string {
	var out []string
	for _, g := range d.Groups {
		s := g.Scope + ":"
		for i, x := range g.Items {
			if i > 0 {
				s += " "
			}
			s += x.Name
		}
		out = append(out, s)
	}
	return out
}

// many is so many items of the signal.
func many(s api.Signal, n int) []api.Item {
	l := make([]api.Item, n)
	for i := range l {
		l[i] = one(s, strconv.Itoa(i))
	}
	return l
}

// groups is so many groups that are not alike, each of so many items.
func groups(s api.Signal, n, each int) []api.Group {
	l := make([]api.Group, n)
	for i := range l {
		l[i] = group(strconv.Itoa(i), many(s, each)...)
	}
	return l
}

// same holds a and b against each other without the package that is tested: floats by their bits, nil lists as empty ones.
func same(a, b any) bool { return sameOf(reflect.ValueOf(a), reflect.ValueOf(b)) }

func sameOf(a, b reflect.Value) bool {
	switch a.Kind() {
	case reflect.Struct:
		for i := range a.NumField() {
			if !sameOf(a.Field(i), b.Field(i)) {
				return false
			}
		}
		return true
	case reflect.Slice:
		if a.Len() != b.Len() {
			return false
		}
		for i := range a.Len() {
			if !sameOf(a.Index(i), b.Index(i)) {
				return false
			}
		}
		return true
	case reflect.Float64:
		return math.Float64bits(a.Float()) == math.Float64bits(b.Float())
	}
	return a.Interface() == b.Interface()
}

// twin is x with memory of its own.
func twin[T any](x T) T {
	out := reflect.New(reflect.TypeFor[T]()).Elem()
	twinOf(out, reflect.ValueOf(x))
	return out.Interface().(T)
}

func twinOf(to, from reflect.Value) {
	switch from.Kind() {
	case reflect.Struct:
		for i := range from.NumField() {
			twinOf(to.Field(i), from.Field(i))
		}
	case reflect.Slice:
		to.Set(reflect.MakeSlice(from.Type(), from.Len(), from.Len()))
		for i := range from.Len() {
			twinOf(to.Index(i), from.Index(i))
		}
	default:
		to.Set(from)
	}
}

// eachCell hands in each element of each list of x, however deep, with the room behind the lists.
func eachCell(x reflect.Value, do func(reflect.Value)) {
	switch x.Kind() {
	case reflect.Struct:
		for i := range x.NumField() {
			eachCell(x.Field(i), do)
		}
	case reflect.Slice:
		all := x.Slice(0, x.Cap())
		for i := range all.Len() {
			eachCell(all.Index(i), do)
			do(all.Index(i))
		}
	}
}

// checkApart tells whether the answers have a cell that was handed in, or one twice.
func checkApart(t *testing.T, name string, handed, answers []api.Data) {
	t.Helper()
	type cell struct {
		at uintptr
		of reflect.Type
	}
	taken := map[cell]int{}
	for _, d := range handed {
		eachCell(reflect.ValueOf(d), func(v reflect.Value) { taken[cell{v.Addr().Pointer(), v.Type()}]++ })
	}
	for _, d := range answers {
		eachCell(reflect.ValueOf(d), func(v reflect.Value) {
			at := cell{v.Addr().Pointer(), v.Type()}
			if taken[at] > 0 {
				t.Errorf("%s: lists of %v share memory", name, v.Type())
			}
			taken[at]++
		})
	}
}

// spoil writes over all elements of all lists of x.
func spoil(x any) {
	eachCell(reflect.ValueOf(x), func(v reflect.Value) { v.SetZero() })
}

func checkErr(t *testing.T, name string, why, want api.Errno) {
	t.Helper()
	if why != want {
		t.Errorf("%s: error %d, want %d", name, why, want)
	}
}

func checkData(t *testing.T, name string, got, want api.Data) {
	t.Helper()
	if !same(got, want) {
		t.Errorf("%s: %v, want %v", name, told(got), told(want))
	}
}

// full is right data of the signal in which each list has something, several of one memory, with room behind them.
func full(s api.Signal) api.Data {
	v := list(append(make([]api.Value, 0, 4), table(pair("k", list(whole(1)))), text("t"))...)
	l := append(make([]api.Pair, 0, 4), pair("a", v), pair("b", v))
	var all []api.Item
	switch s {
	case api.SignalTrace:
		all = []api.Item{{Name: "s", Kind: 2, Start: 1, Time: 2, Trace: trace, Span: span, Parent: span, Code: 1, Message: "m", Attrs: l}}
	case api.SignalLog:
		all = []api.Item{{Name: "l", Kind: 9, Start: 1, Time: 2, Trace: trace, Span: span, Attrs: l, Body: v}}
	case api.SignalMetric:
		for _, p := range fullPoints() {
			all = append(all, p)
			all[len(all)-1].Attrs = l
		}
	}
	all = append(make([]api.Item, 0, 20), append(all, all...)...)
	g := api.Group{Resource: l, Scope: "s", Version: "1", Attrs: l, Items: all[:len(all)-1]}
	other := g
	other.Scope = "o"
	return data(s, append(make([]api.Group, 0, 8), g, other, g)...)
}

// fullPoints is metrics of each kind, their lists being of one memory.
func fullPoints() []api.Item {
	counts := append(make([]uint64, 0, 4), 1, 2)
	return []api.Item{
		{Name: "n", Kind: api.MetricGauge, Point: api.Point{Kind: api.PointFloat, F: 1}},
		{Name: "n", Kind: api.MetricSum, Temp: 1, Mono: true, Point: api.Point{Kind: api.PointInt, N: 1}},
		{Name: "h", Kind: api.MetricHist, Temp: 2, Point: api.Point{Kind: api.PointHist, Count: 3, Counts: counts, Bounds: append(make([]float64, 0, 4), 1), HasSum: true, Sum: 1}},
		{Name: "e", Kind: api.MetricExp, Temp: 1, Point: api.Point{Kind: api.PointExp, Count: 7, Zero: 1, Counts: counts, NegCounts: counts, Scale: 1, Offset: 1, NegOffset: 2}},
		{Name: "q", Kind: api.MetricSummary, Point: api.Point{Kind: api.PointSummary, Count: 1, Sum: 2, Quants: append(make([]api.Quant, 0, 4), api.Quant{Q: 0, V: 1}, api.Quant{Q: 1, V: 2})}},
	}
}

// some is any data of the signal that are right, some groups being alike, some without items.
func some(r *rand.Rand, s api.Signal) api.Data {
	d := data(s)
	for range r.IntN(6) {
		g := api.Group{Scope: []string{"", "a", "b"}[r.IntN(3)], Resource: [][]api.Pair{nil, {pair("a", whole(1))}}[r.IntN(2)]}
		for range r.IntN(4) {
			x := one(s, strconv.Itoa(r.IntN(100)))
			x.Time = r.Uint64()
			if r.IntN(3) == 0 {
				x.Attrs = []api.Pair{pair("f", api.Value{Kind: api.KindFloat, F: math.Float64frombits(r.Uint64())})}
			}
			g.Items = append(g.Items, x)
		}
		d.Groups = append(d.Groups, g)
	}
	return d
}

func signals() []api.Signal {
	return []api.Signal{api.SignalTrace, api.SignalLog, api.SignalMetric}
}
