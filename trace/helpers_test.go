package trace_test

import (
	"encoding/binary"
	"math"
	"math/rand/v2"
	"reflect"
	"strings"
	"testing"

	"penstock/api"
	"penstock/trace"
	"penstock/value"
)

const (
	aTrace = "0123456789abcdef"
	aSpan  = "01234567"
)

var minus = math.Copysign(0, -1)

func text(s string) api.Value  { return api.Value{Kind: api.KindText, S: s} }
func whole(n int64) api.Value  { return api.Value{Kind: api.KindInt, N: n} }
func part(f float64) api.Value { return api.Value{Kind: api.KindFloat, F: f} }

func list(l ...api.Value) api.Value { return api.Value{Kind: api.KindList, List: l} }
func table(l ...api.Pair) api.Value { return api.Value{Kind: api.KindMap, Pairs: l} }

// nested is so many lists, one in another.
func nested(n int) api.Value {
	v := whole(1)
	for range n {
		v = list(v)
	}
	return v
}

func pair(key string, v api.Value) api.Pair { return api.Pair{Key: key, Value: v} }
func pairs(l ...api.Pair) []api.Pair        { return l }

func data(s api.Signal, l ...api.Group) api.Data { return api.Data{Signal: s, Groups: l} }
func items(l ...api.Item) api.Group              { return api.Group{Items: l} }

func signals() []api.Signal { return []api.Signal{api.SignalTrace, api.SignalLog} }

// one is an item of the signal that has no more than it must.
func one(s api.Signal) api.Item {
	if s == api.SignalTrace {
		return api.Item{Trace: aTrace, Span: aSpan}
	}
	return api.Item{}
}

// The messages are written here as the document's table has them, without the package that is tested.

func num(n uint64) string { return string(binary.AppendUvarint(nil, n)) }

func head(field, wire int) string { return num(uint64(8*field + wire)) }

func varint(field int, n uint64) string { return head(field, 0) + num(n) }

func eight(field int, n uint64) string {
	return head(field, 1) + string(binary.LittleEndian.AppendUint64(nil, n))
}

func four(field int, n uint32) string {
	return head(field, 5) + string(binary.LittleEndian.AppendUint32(nil, n))
}

func bytes(field int, s string) string { return head(field, 2) + num(uint64(len(s))) + s }

// unless is what is written, but for what is zero.
func unless(zero bool, written string) string {
	if zero {
		return ""
	}
	return written
}

func someVarint(field int, n uint64) string { return unless(n == 0, varint(field, n)) }
func someEight(field int, n uint64) string  { return unless(n == 0, eight(field, n)) }
func someBytes(field int, s string) string  { return unless(s == "", bytes(field, s)) }

// layout writes requests in which something more stands ahead of, or behind, what each message of a name has.
type layout struct{ ahead, behind map[string]string }

func (l layout) message(name string, fields ...string) string {
	return l.ahead[name] + strings.Join(fields, "") + l.behind[name]
}

func (l layout) request(d api.Data) string {
	var groups []string
	for _, g := range d.Groups {
		resource := l.message("resource", pairsOf(1, g.Resource))
		scope := l.message("scope", someBytes(1, g.Scope), someBytes(2, g.Version), pairsOf(3, g.Attrs))
		var records strings.Builder
		for _, x := range g.Items {
			records.WriteString(bytes(2, l.record(x, d.Signal)))
		}
		scoped := l.message("scoped", someBytes(1, scope), records.String())
		groups = append(groups, bytes(1, l.message("group", someBytes(1, resource), bytes(2, scoped))))
	}
	return l.message("request", groups...)
}

func (l layout) record(x api.Item, s api.Signal) string {
	if s == api.SignalLog {
		return l.message("log", someEight(1, x.Time), someVarint(2, uint64(x.Kind)), someBytes(3, x.Name), someBytes(5, valueOf(x.Body)),
			pairsOf(6, x.Attrs), someBytes(9, x.Trace), someBytes(10, x.Span), someEight(11, x.Start))
	}
	status := l.message("status", someBytes(2, x.Message), someVarint(3, uint64(x.Code)))
	return l.message("span", someBytes(1, x.Trace), someBytes(2, x.Span), someBytes(4, x.Parent), someBytes(5, x.Name), someVarint(6, uint64(x.Kind)),
		someEight(7, x.Start), someEight(8, x.Time), pairsOf(9, x.Attrs), someBytes(15, status))
}

func request(d api.Data) string { return layout{}.request(d) }

// inGroup is the request of one group of one scoped message, inScope of one record of such a one.
func inGroup(scoped string) string { return bytes(1, bytes(2, scoped)) }
func inScope(record string) string { return inGroup(bytes(2, record)) }

func pairsOf(field int, l []api.Pair) string {
	var s strings.Builder
	for _, p := range l {
		m, _ := value.WritePair(p)
		s.WriteString(bytes(field, m))
	}
	return s.String()
}

func valueOf(v api.Value) string {
	s, _ := value.Write(v)
	return s
}

// What is right at random, many of its fields being zero.

// few is mostly 0, else a number of any length.
func few(r *rand.Rand) uint64 { return r.Uint64() >> r.IntN(64) * uint64(r.IntN(2)) }

func someText(r *rand.Rand) string { return strings.Repeat("é", r.IntN(4)*r.IntN(20)) }

func someFloat(r *rand.Rand) float64 {
	return []float64{0, minus, math.NaN(), math.Inf(-1), math.Float64frombits(0x7ff0000000000001), math.Float64frombits(r.Uint64())}[r.IntN(6)]
}

func someValue(r *rand.Rand, deep int) api.Value {
	switch r.IntN(6 + min(deep, 2)) {
	case 0:
		return api.Value{}
	case 1:
		return text(someText(r))
	case 2:
		return api.Value{Kind: api.KindBool, B: r.IntN(2) == 0}
	case 3:
		return whole(int64(few(r)))
	case 4:
		return part(someFloat(r))
	case 5:
		return api.Value{Kind: api.KindBytes, S: "\xff\x00"[:r.IntN(3)]}
	case 6:
		v := list()
		for range r.IntN(4) {
			v.List = append(v.List, someValue(r, deep-1))
		}
		return v
	}
	return table(somePairs(r, deep-1)...)
}

func somePairs(r *rand.Rand, deep int) []api.Pair {
	var l []api.Pair
	for _, key := range []string{"", "a", strings.Repeat("k", 127), "é"}[:r.IntN(5)] {
		l = append(l, pair(key, someValue(r, deep)))
	}
	return l
}

func someItem(r *rand.Rand, s api.Signal) api.Item {
	x := api.Item{Name: someText(r), Kind: int32(r.IntN(6)), Start: few(r), Time: few(r), Trace: aTrace, Span: aSpan, Attrs: somePairs(r, 3)}
	if s == api.SignalTrace {
		x.Parent, x.Code, x.Message = aSpan[:8*r.IntN(2)], uint8(r.IntN(3)), someText(r)
		return x
	}
	x.Kind = int32(r.IntN(25))
	x.Trace, x.Span, x.Body = aTrace[:16*r.IntN(2)], aSpan[:8*r.IntN(2)], someValue(r, 3)
	return x
}

func some(r *rand.Rand, s api.Signal) api.Data {
	d := data(s)
	for range r.IntN(5) {
		g := api.Group{Scope: someText(r), Version: someText(r)}
		if r.IntN(2) == 0 {
			g.Resource, g.Attrs = somePairs(r, 2), somePairs(r, 2)
		}
		for range r.IntN(6) {
			g.Items = append(g.Items, someItem(r, s))
		}
		d.Groups = append(d.Groups, g)
	}
	return d
}

// full is right data in which each field has something, lists being of one memory, with room behind them.
func full(s api.Signal) api.Data {
	v := list(append(make([]api.Value, 0, 4), table(pair("k", list(whole(1)))), text("t"), part(math.NaN()))...)
	l := append(make([]api.Pair, 0, 4), pair("a", v), pair("b", v))
	x := api.Item{Name: "s", Kind: 2, Start: 1, Time: 2, Trace: aTrace, Span: aSpan, Parent: "76543210", Code: 1, Message: "m", Attrs: l}
	if s == api.SignalLog {
		x = api.Item{Name: "l", Kind: 9, Start: 1, Time: 2, Trace: aTrace, Span: aSpan, Attrs: l, Body: v}
	}
	all := append(make([]api.Item, 0, 8), x, x, x)
	g := api.Group{Resource: l, Scope: "s", Version: "1", Attrs: l, Items: all[:2]}
	other := g
	other.Scope = "o"
	return data(s, append(make([]api.Group, 0, 8), g, other, g)...)
}

// same holds a and b against each other without the packages that are tested: floats by their bits, nil lists as empty ones.
func same(a, b any) bool { return sameOf(reflect.ValueOf(a), reflect.ValueOf(b)) }

func sameOf(a, b reflect.Value) bool {
	switch a.Kind() {
	case reflect.Struct:
		for i := range a.NumField() {
			if !sameOf(a.Field(i), b.Field(i)) {
				return false
			}
		}
		return true
	case reflect.Slice:
		if a.Len() != b.Len() {
			return false
		}
		for i := range a.Len() {
			if !sameOf(a.Index(i), b.Index(i)) {
				return false
			}
		}
		return true
	case reflect.Float64:
		return math.Float64bits(a.Float()) == math.Float64bits(b.Float())
	}
	return a.Interface() == b.Interface()
}

// eachCell hands in each element of each list of x, however deep, with the room behind the lists.
func eachCell(x reflect.Value, do func(reflect.Value)) {
	switch x.Kind() {
	case reflect.Struct:
		for i := range x.NumField() {
			eachCell(x.Field(i), do)
		}
	case reflect.Slice:
		all := x.Slice(0, x.Cap())
		for i := range all.Len() {
			eachCell(all.Index(i), do)
			do(all.Index(i))
		}
	}
}

// checkApart tells whether two lists of the answers have a cell in common.
func checkApart(t *testing.T, name string, answers ...api.Data) {
	t.Helper()
	type cell struct {
		at uintptr
		of reflect.Type
	}
	taken := map[cell]int{}
	for _, d := range answers {
		eachCell(reflect.ValueOf(d), func(v reflect.Value) {
			at := cell{v.Addr().Pointer(), v.Type()}
			if taken[at]++; taken[at] == 2 {
				t.Errorf("%s: lists of %v share memory", name, v.Type())
			}
		})
	}
}

// spoil writes over all elements of all lists of x.
func spoil(x any) {
	eachCell(reflect.ValueOf(x), func(v reflect.Value) { v.SetZero() })
}

func checkErr(t *testing.T, name string, why, want api.Errno) {
	t.Helper()
	if why != want {
		t.Errorf("%s: error %d, want %d", name, why, want)
	}
}

// checkWrite tells what Write says of d.
func checkWrite(t *testing.T, name string, d api.Data, want string, wantWhy api.Errno) {
	t.Helper()
	s, why := trace.Write(d)
	checkErr(t, "Write of "+name, why, wantWhy)
	if s != want {
		t.Errorf("Write of %s: %x, want %x", name, s, want)
	}
}

// checkRead tells what Read says of s.
func checkRead(t *testing.T, name, s string, want api.Data) {
	t.Helper()
	d, why := trace.Read(s, want.Signal)
	checkErr(t, "Read of "+name, why, api.OK)
	if !same(d, want) {
		t.Errorf("Read of %s: %v, want %v", name, d, want)
	}
}

// checkRefused tells that Read of s has that error, and nothing beside it.
func checkRefused(t *testing.T, name, s string, as api.Signal, want api.Errno) {
	t.Helper()
	d, why := trace.Read(s, as)
	checkErr(t, "Read of "+name, why, want)
	if !same(d, api.Data{}) {
		t.Errorf("Read of %s: %v beside an error", name, d)
	}
}
