package metric_test

import (
	"encoding/binary"
	"math"
	"math/rand/v2"
	"reflect"
	"strconv"
	"strings"
	"testing"

	"penstock/api"
	"penstock/metric"
	"penstock/value"
)

var minus = math.Copysign(0, -1)

func text(s string) api.Value  { return api.Value{Kind: api.KindText, S: s} }
func whole(n int64) api.Value  { return api.Value{Kind: api.KindInt, N: n} }
func part(f float64) api.Value { return api.Value{Kind: api.KindFloat, F: f} }

func list(l ...api.Value) api.Value { return api.Value{Kind: api.KindList, List: l} }

func pair(key string, v api.Value) api.Pair { return api.Pair{Key: key, Value: v} }
func pairs(l ...api.Pair) []api.Pair        { return l }

func data(l ...api.Group) api.Data     { return api.Data{Signal: api.SignalMetric, Groups: l} }
func items(l ...api.Item) api.Group    { return api.Group{Items: l} }
func points(l ...api.Item) api.Data    { return data(items(l...)) }
func gauge(name string) api.Item       { return api.Item{Name: name, Kind: api.MetricGauge} }
func floats(l ...float64) []float64    { return l }
func wholes(l ...uint64) []uint64      { return l }
func bits(f float64) uint64            { return math.Float64bits(f) }
func of(k int32, p api.Point) api.Item { return api.Item{Name: "m", Kind: k, Point: p} }

// bare is a point of each kind of metric that has no more than it must.
func bare() []api.Item {
	return []api.Item{
		of(api.MetricGauge, api.Point{}),
		of(api.MetricSum, api.Point{}),
		of(api.MetricHist, api.Point{Kind: api.PointHist}),
		of(api.MetricExp, api.Point{Kind: api.PointExp}),
		of(api.MetricSummary, api.Point{Kind: api.PointSummary}),
	}
}

// The messages are written here as the document's table has them, without the package that is tested.

func num(n uint64) string { return string(binary.AppendUvarint(nil, n)) }

func head(field, wire int) string { return num(uint64(8*field + wire)) }

func varint(field int, n uint64) string { return head(field, 0) + num(n) }

func bareEight(n uint64) string { return string(binary.LittleEndian.AppendUint64(nil, n)) }

func eight(field int, n uint64) string { return head(field, 1) + bareEight(n) }

func four(field int, n uint32) string {
	return head(field, 5) + string(binary.LittleEndian.AppendUint32(nil, n))
}

func bytes(field int, s string) string { return head(field, 2) + num(uint64(len(s))) + s }

// unless is what is written, but for what is zero.
func unless(zero bool, written string) string {
	if zero {
		return ""
	}
	return written
}

func someVarint(field int, n uint64) string { return unless(n == 0, varint(field, n)) }
func someEight(field int, n uint64) string  { return unless(n == 0, eight(field, n)) }
func someBytes(field int, s string) string  { return unless(s == "", bytes(field, s)) }

func zigzag(n int32) uint64 { return uint64(uint32(n<<1) ^ uint32(n>>31)) }

// places is the field of points, by the kind of metric.
func places() map[int32]int {
	return map[int32]int{api.MetricGauge: 5, api.MetricSum: 7, api.MetricHist: 9, api.MetricExp: 10, api.MetricSummary: 11}
}

// inGroup is the request of one group of one scoped message, inScope of one metric, inPoints of one point of that field, with what more its points have.
func inGroup(scoped string) string { return bytes(1, bytes(2, scoped)) }
func inScope(record string) string { return inGroup(bytes(2, record)) }

func inPoints(field int, point string, more ...string) string {
	return inScope(bytes(1, "m") + bytes(field, bytes(1, point)+strings.Join(more, "")))
}

// layout writes requests in which something more stands ahead of, or behind, what each message of a name has.
type layout struct{ ahead, behind map[string]string }

func (l layout) message(name string, fields ...string) string {
	return l.ahead[name] + strings.Join(fields, "") + l.behind[name]
}

func (l layout) request(d api.Data) string {
	var groups []string
	for _, g := range d.Groups {
		resource := l.message("resource", pairsOf(1, g.Resource))
		scope := l.message("scope", someBytes(1, g.Scope), someBytes(2, g.Version), pairsOf(3, g.Attrs))
		scoped := l.message("scoped", someBytes(1, scope), l.metrics(g.Items))
		groups = append(groups, bytes(1, l.message("group", someBytes(1, resource), bytes(2, scoped))))
	}
	return l.message("request", groups...)
}

func (l layout) metrics(all []api.Item) string {
	type metric struct {
		name, unit string
		kind       int32
		temp       uint8
		mono       bool
	}
	of := func(x api.Item) metric { return metric{x.Name, x.Unit, x.Kind, x.Temp, x.Mono} }
	s := ""
	for i := 0; i < len(all); {
		m, list := of(all[i]), ""
		for ; i < len(all) && of(all[i]) == m; i++ {
			list += bytes(1, l.point(all[i]))
		}
		name := "points of " + strconv.Itoa(int(m.kind))
		list = l.message(name, list, someVarint(2, uint64(m.temp)), unless(!m.mono, varint(3, 1)))
		s += bytes(2, l.message("metric", someBytes(1, m.name), someBytes(3, m.unit), bytes(places()[m.kind], list)))
	}
	return s
}

func (l layout) point(x api.Item) string {
	p, times := x.Point, someEight(2, x.Start)+someEight(3, x.Time)
	counted := someEight(4, p.Count)
	sum := unless(!p.HasSum, eight(5, bits(p.Sum)))
	switch x.Kind {
	case api.MetricHist:
		counts, bounds := "", ""
		for _, n := range p.Counts {
			counts += bareEight(n)
		}
		for _, f := range p.Bounds {
			bounds += bareEight(bits(f))
		}
		return l.message("hist", times, counted, sum, someBytes(6, counts), someBytes(7, bounds), pairsOf(9, x.Attrs))
	case api.MetricExp:
		return l.message("exp", pairsOf(1, x.Attrs), times, counted, sum, someVarint(6, zigzag(p.Scale)), someEight(7, p.Zero),
			someBytes(8, l.buckets(p.Offset, p.Counts)), someBytes(9, l.buckets(p.NegOffset, p.NegCounts)))
	case api.MetricSummary:
		quants := ""
		for _, q := range p.Quants {
			quants += bytes(6, l.message("quantile", someEight(1, bits(q.Q)), someEight(2, bits(q.V))))
		}
		return l.message("summary", times, counted, someEight(5, bits(p.Sum)), quants, pairsOf(7, x.Attrs))
	}
	number := map[api.PointKind]string{api.PointFloat: eight(4, bits(p.F)), api.PointInt: eight(6, uint64(p.N))}[p.Kind]
	return l.message("number", times, number, pairsOf(7, x.Attrs))
}

func (l layout) buckets(offset int32, counts []uint64) string {
	s := ""
	for _, n := range counts {
		s += num(n)
	}
	return l.message("buckets", someVarint(1, zigzag(offset)), someBytes(2, s))
}

func request(d api.Data) string { return layout{}.request(d) }

func pairsOf(field int, l []api.Pair) string {
	var s strings.Builder
	for _, p := range l {
		m, _ := value.WritePair(p)
		s.WriteString(bytes(field, m))
	}
	return s.String()
}

// What is right at random, many of its fields being zero.

// few is mostly 0, else a number of any length.
func few(r *rand.Rand) uint64 { return r.Uint64() >> r.IntN(64) * uint64(r.IntN(2)) }

func someText(r *rand.Rand) string { return strings.Repeat("é", r.IntN(4)*r.IntN(20)) }

func someFloat(r *rand.Rand) float64 {
	return []float64{0, minus, 1, math.NaN(), math.Inf(-1), math.Float64frombits(0x7ff0000000000001), math.Float64frombits(r.Uint64())}[r.IntN(7)]
}

func somePairs(r *rand.Rand) []api.Pair {
	values := []api.Value{{}, text(someText(r)), whole(int64(few(r))), part(someFloat(r)), list(part(someFloat(r)), api.Value{})}
	var l []api.Pair
	for _, key := range []string{"", "a", strings.Repeat("k", 127), "é"}[:r.IntN(5)] {
		l = append(l, pair(key, values[r.IntN(len(values))]))
	}
	return l
}

func someItem(r *rand.Rand) api.Item {
	x := api.Item{Name: strconv.Itoa(r.IntN(2)), Unit: strconv.Itoa(r.IntN(2))[r.IntN(2):], Start: few(r), Time: few(r), Attrs: somePairs(r)}
	x.Kind, x.Point = somePoint(r)
	if x.Kind >= api.MetricSum && x.Kind <= api.MetricExp {
		x.Temp = uint8(r.IntN(3))
	}
	x.Mono = x.Kind == api.MetricSum && r.IntN(2) == 0
	return x
}

func somePoint(r *rand.Rand) (int32, api.Point) {
	numbers := []int32{api.MetricGauge, api.MetricSum}
	switch kind := api.PointKind(r.IntN(int(api.PointCount))); kind {
	case api.PointInt:
		return numbers[r.IntN(2)], api.Point{Kind: kind, N: int64(few(r))}
	case api.PointFloat:
		return numbers[r.IntN(2)], api.Point{Kind: kind, F: someFloat(r)}
	case api.PointHist:
		p := someSum(r, api.Point{Kind: kind, Count: few(r)})
		if r.IntN(4) > 0 {
			p.Counts, p.Count = someCounts(r)
		}
		for i := 1; i < len(p.Counts); i++ {
			p.Bounds = append(p.Bounds, float64(i-2))
		}
		return api.MetricHist, p
	case api.PointExp:
		p := api.Point{Kind: kind, Scale: int32(r.IntN(31) - 10), Zero: few(r) >> 10, Offset: int32(few(r)), NegOffset: int32(few(r))}
		var n, m uint64
		p.Counts, n = someCounts(r)
		p.NegCounts, m = someCounts(r)
		p.Count = p.Zero + n + m
		return api.MetricExp, someSum(r, p)
	case api.PointSummary:
		p := api.Point{Kind: kind, Count: few(r), Sum: someFloat(r)}
		for i := range r.IntN(4) {
			p.Quants = append(p.Quants, api.Quant{Q: float64(i) / 4, V: someFloat(r)})
		}
		return api.MetricSummary, p
	}
	return numbers[r.IntN(2)], api.Point{}
}

func someSum(r *rand.Rand, p api.Point) api.Point {
	if r.IntN(2) == 0 {
		p.HasSum, p.Sum = true, someFloat(r)
	}
	return p
}

// someCounts is one at least, and what all are together.
func someCounts(r *rand.Rand) ([]uint64, uint64) {
	var l []uint64
	sum := uint64(0)
	for range 1 + r.IntN(5) {
		n := few(r) >> 10
		l, sum = append(l, n), sum+n
	}
	return l, sum
}

func some(r *rand.Rand) api.Data {
	d := data()
	for range r.IntN(5) {
		g := api.Group{Scope: someText(r), Version: someText(r)}
		if r.IntN(2) == 0 {
			g.Resource, g.Attrs = somePairs(r), somePairs(r)
		}
		for range r.IntN(6) {
			g.Items = append(g.Items, someItem(r))
		}
		d.Groups = append(d.Groups, g)
	}
	return d
}

// full is right data in which each field has something, lists being of one memory, with room behind them.
func full() api.Data {
	v := list(append(make([]api.Value, 0, 4), list(whole(1)), text("t"))...)
	l := append(make([]api.Pair, 0, 4), pair("a", v), pair("b", part(math.NaN())))
	counts := append(make([]uint64, 0, 4), 1, 200)
	all := append(make([]api.Item, 0, 20),
		of(api.MetricGauge, api.Point{Kind: api.PointFloat, F: 1.5}),
		of(api.MetricGauge, api.Point{Kind: api.PointInt, N: -1}),
		of(api.MetricSum, api.Point{Kind: api.PointInt, N: 7}),
		of(api.MetricHist, api.Point{Kind: api.PointHist, Count: 201, Counts: counts, Bounds: append(make([]float64, 0, 4), 1), HasSum: true, Sum: 2}),
		of(api.MetricExp, api.Point{Kind: api.PointExp, Count: 405, Zero: 3, Counts: counts, NegCounts: counts, Scale: -3, Offset: -1, NegOffset: 2, HasSum: true, Sum: 3}),
		of(api.MetricSummary, api.Point{Kind: api.PointSummary, Count: 1, Sum: 2, Quants: append(make([]api.Quant, 0, 4), api.Quant{Q: 0.5, V: 1}, api.Quant{Q: 1, V: 2})}),
	)
	for i := range all {
		x := &all[i]
		x.Unit, x.Start, x.Time, x.Attrs = "u", 5, 6, l
		if x.Kind >= api.MetricSum && x.Kind <= api.MetricExp {
			x.Temp = 1
		}
		x.Mono = x.Kind == api.MetricSum
	}
	g := api.Group{Resource: l, Scope: "s", Version: "1", Attrs: l, Items: all}
	other := g
	other.Scope = "o"
	return data(append(make([]api.Group, 0, 8), g, other, g)...)
}

// same holds a and b against each other without the packages that are tested: floats by their bits, nil lists as empty ones.
func same(a, b any) bool { return sameOf(reflect.ValueOf(a), reflect.ValueOf(b)) }

func sameOf(a, b reflect.Value) bool {
	switch a.Kind() {
	case reflect.Struct:
		for i := range a.NumField() {
			if !sameOf(a.Field(i), b.Field(i)) {
				return false
			}
		}
		return true
	case reflect.Slice:
		if a.Len() != b.Len() {
			return false
		}
		for i := range a.Len() {
			if !sameOf(a.Index(i), b.Index(i)) {
				return false
			}
		}
		return true
	case reflect.Float64:
		return math.Float64bits(a.Float()) == math.Float64bits(b.Float())
	}
	return a.Interface() == b.Interface()
}

// eachCell hands in each element of each list of x, however deep, with the room behind the lists.
func eachCell(x reflect.Value, do func(reflect.Value)) {
	switch x.Kind() {
	case reflect.Struct:
		for i := range x.NumField() {
			eachCell(x.Field(i), do)
		}
	case reflect.Slice:
		all := x.Slice(0, x.Cap())
		for i := range all.Len() {
			eachCell(all.Index(i), do)
			do(all.Index(i))
		}
	}
}

// checkApart tells whether two lists of the answers have a cell in common.
func checkApart(t *testing.T, name string, answers ...api.Data) {
	t.Helper()
	type cell struct {
		at uintptr
		of reflect.Type
	}
	taken := map[cell]int{}
	for _, d := range answers {
		eachCell(reflect.ValueOf(d), func(v reflect.Value) {
			at := cell{v.Addr().Pointer(), v.Type()}
			if taken[at]++; taken[at] == 2 {
				t.Errorf("%s: lists of %v share memory", name, v.Type())
			}
		})
	}
}

// spoil writes over all elements of all lists of x.
func spoil(x any) {
	eachCell(reflect.ValueOf(x), func(v reflect.Value) { v.SetZero() })
}

func checkErr(t *testing.T, name string, why, want api.Errno) {
	t.Helper()
	if why != want {
		t.Errorf("%s: error %d, want %d", name, why, want)
	}
}

// checkWrite tells what Write says of d.
func checkWrite(t *testing.T, name string, d api.Data, want string, wantWhy api.Errno) {
	t.Helper()
	s, why := metric.Write(d)
	checkErr(t, "Write of "+name, why, wantWhy)
	if s != want {
		t.Errorf("Write of %s: %x, want %x", name, s, want)
	}
}

// checkRead tells what Read says of s.
func checkRead(t *testing.T, name, s string, want api.Data) {
	t.Helper()
	d, why := metric.Read(s)
	checkErr(t, "Read of "+name, why, api.OK)
	if !same(d, want) {
		t.Errorf("Read of %s: %v, want %v", name, d, want)
	}
}

// checkRefused tells that Read of s has that error, and nothing beside it.
func checkRefused(t *testing.T, name, s string, want api.Errno) {
	t.Helper()
	d, why := metric.Read(s)
	checkErr(t, "Read of "+name, why, want)
	if !same(d, api.Data{}) {
		t.Errorf("Read of %s: %v beside an error", name, d)
	}
}
