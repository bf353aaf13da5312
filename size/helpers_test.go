package size_test

import (
	"encoding/binary"
	"math"
	"math/rand/v2"
	"strconv"
	"strings"
	"testing"

	"penstock/api"
)

const (
	trace = "0123456789abcdef"
	span  = "01234567"
)

var minus = math.Copysign(0, -1)

func text(s string) api.Value  { return api.Value{Kind: api.KindText, S: s} }
func whole(n int64) api.Value  { return api.Value{Kind: api.KindInt, N: n} }
func part(f float64) api.Value { return api.Value{Kind: api.KindFloat, F: f} }

func list(l ...api.Value) api.Value { return api.Value{Kind: api.KindList, List: l} }
func table(l ...api.Pair) api.Value { return api.Value{Kind: api.KindMap, Pairs: l} }

func pair(key string, v api.Value) api.Pair { return api.Pair{Key: key, Value: v} }
func pairs(l ...api.Pair) []api.Pair        { return l }

func data(s api.Signal, l ...api.Group) api.Data { return api.Data{Signal: s, Groups: l} }
func items(l ...api.Item) api.Group              { return api.Group{Items: l} }

func signals() []api.Signal {
	return []api.Signal{api.SignalTrace, api.SignalLog, api.SignalMetric}
}

// The messages are written here as the document's table has them, without the package that is tested and those that it calls.

func num(n uint64) string { return string(binary.AppendUvarint(nil, n)) }

func head(field, wire int) string { return num(uint64(8*field + wire)) }

func varint(field int, n uint64) string { return head(field, 0) + num(n) }

func eight(field int, n uint64) string {
	return head(field, 1) + string(binary.LittleEndian.AppendUint64(nil, n))
}

func bytes(field int, s string) string { return head(field, 2) + num(uint64(len(s))) + s }

// unless is what is written, but for what is zero.
func unless(zero bool, written string) string {
	if zero {
		return ""
	}
	return written
}

func someVarint(field int, n uint64) string { return unless(n == 0, varint(field, n)) }
func someEight(field int, n uint64) string  { return unless(n == 0, eight(field, n)) }
func someBytes(field int, s string) string  { return unless(s == "", bytes(field, s)) }

func zigzag(n int32) uint64 { return uint64(uint32(n<<1) ^ uint32(n>>31)) }

func request(d api.Data) string {
	s := ""
	for _, g := range d.Groups {
		scoped := someBytes(1, someBytes(1, g.Scope)+someBytes(2, g.Version)+pairsOf(3, g.Attrs)) + records(g.Items, d.Signal)
		s += bytes(1, someBytes(1, pairsOf(1, g.Resource))+bytes(2, scoped))
	}
	return s
}

func pairsOf(field int, l []api.Pair) string {
	var s strings.Builder
	for _, p := range l {
		s.WriteString(bytes(field, someBytes(1, p.Key)+someBytes(2, valueOf(p.Value))))
	}
	return s.String()
}

func valueOf(v api.Value) string {
	switch v.Kind {
	case api.KindText:
		return bytes(1, v.S)
	case api.KindBool:
		return varint(2, map[bool]uint64{true: 1}[v.B])
	case api.KindInt:
		return varint(3, uint64(v.N))
	case api.KindFloat:
		return eight(4, math.Float64bits(v.F))
	case api.KindList:
		var s strings.Builder
		for _, x := range v.List {
			s.WriteString(bytes(1, valueOf(x)))
		}
		return bytes(5, s.String())
	case api.KindMap:
		return bytes(6, pairsOf(1, v.Pairs))
	case api.KindBytes:
		return bytes(7, v.S)
	}
	return ""
}

func records(l []api.Item, s api.Signal) string {
	if s == api.SignalMetric {
		return metrics(l)
	}
	var out strings.Builder
	for _, x := range l {
		out.WriteString(bytes(2, itemOf(x, s)))
	}
	return out.String()
}

func itemOf(x api.Item, s api.Signal) string {
	switch s {
	case api.SignalTrace:
		return someBytes(1, x.Trace) + someBytes(2, x.Span) + someBytes(4, x.Parent) + someBytes(5, x.Name) + someVarint(6, uint64(x.Kind)) +
			someEight(7, x.Start) + someEight(8, x.Time) + pairsOf(9, x.Attrs) + someBytes(15, someBytes(2, x.Message)+someVarint(3, uint64(x.Code)))
	case api.SignalLog:
		return someEight(1, x.Time) + someVarint(2, uint64(x.Kind)) + someBytes(3, x.Name) + someBytes(5, valueOf(x.Body)) +
			pairsOf(6, x.Attrs) + someBytes(9, x.Trace) + someBytes(10, x.Span) + someEight(11, x.Start)
	}
	return pointOf(x)
}

func metrics(l []api.Item) string {
	type metric struct {
		name, unit string
		kind       int32
		temp       uint8
		mono       bool
	}
	of := func(x api.Item) metric { return metric{x.Name, x.Unit, x.Kind, x.Temp, x.Mono} }
	s := ""
	for i := 0; i < len(l); {
		m, points := of(l[i]), ""
		for ; i < len(l) && of(l[i]) == m; i++ {
			points += bytes(1, pointOf(l[i]))
		}
		points += someVarint(2, uint64(m.temp)) + unless(!m.mono, varint(3, 1))
		field := map[int32]int{api.MetricGauge: 5, api.MetricSum: 7, api.MetricHist: 9, api.MetricExp: 10, api.MetricSummary: 11}[m.kind]
		s += bytes(2, someBytes(1, m.name)+someBytes(3, m.unit)+bytes(field, points))
	}
	return s
}

func pointOf(x api.Item) string {
	p, times := x.Point, someEight(2, x.Start)+someEight(3, x.Time)
	sum := unless(!p.HasSum, eight(5, math.Float64bits(p.Sum)))
	switch p.Kind {
	case api.PointNone:
		return times + pairsOf(7, x.Attrs)
	case api.PointFloat:
		return times + eight(4, math.Float64bits(p.F)) + pairsOf(7, x.Attrs)
	case api.PointInt:
		return times + eight(6, uint64(p.N)) + pairsOf(7, x.Attrs)
	case api.PointHist:
		counts, bounds := "", ""
		for _, n := range p.Counts {
			counts += eight(1, n)[1:]
		}
		for _, f := range p.Bounds {
			bounds += eight(1, math.Float64bits(f))[1:]
		}
		return times + someEight(4, p.Count) + sum + someBytes(6, counts) + someBytes(7, bounds) + pairsOf(9, x.Attrs)
	case api.PointExp:
		return pairsOf(1, x.Attrs) + times + someEight(4, p.Count) + sum + someVarint(6, zigzag(p.Scale)) + someEight(7, p.Zero) +
			someBytes(8, buckets(p.Offset, p.Counts)) + someBytes(9, buckets(p.NegOffset, p.NegCounts))
	}
	quants := ""
	for _, q := range p.Quants {
		quants += bytes(6, someEight(1, math.Float64bits(q.Q))+someEight(2, math.Float64bits(q.V)))
	}
	return times + someEight(4, p.Count) + someEight(5, math.Float64bits(p.Sum)) + quants + pairsOf(7, x.Attrs)
}

func buckets(offset int32, counts []uint64) string {
	s := ""
	for _, n := range counts {
		s += num(n)
	}
	return someVarint(1, zigzag(offset)) + someBytes(2, s)
}

// What is right at random, many of its fields being zero.

// few is mostly 0, else a number of any length.
func few(r *rand.Rand) uint64 {
	return r.Uint64() >> r.IntN(64) * uint64(r.IntN(2))
}

func someFloat(r *rand.Rand) float64 {
	return []float64{0, minus, 1, math.NaN(), math.Inf(-1), math.Float64frombits(r.Uint64())}[r.IntN(6)]
}

func someText(r *rand.Rand) string {
	return strings.Repeat("x", r.IntN(4)*r.IntN(60))
}

func someValue(r *rand.Rand, deep int) api.Value {
	switch r.IntN(7 + min(deep, 2)) {
	case 0:
		return api.Value{}
	case 1, 2:
		return text(someText(r))
	case 3:
		return api.Value{Kind: api.KindBool, B: r.IntN(2) == 0}
	case 4:
		return whole(int64(few(r)))
	case 5:
		return part(someFloat(r))
	case 6:
		return api.Value{Kind: api.KindBytes, S: someText(r)}
	case 7:
		v := list()
		for range r.IntN(4) {
			v.List = append(v.List, someValue(r, deep-1))
		}
		return v
	}
	return table(somePairs(r, deep-1)...)
}

func somePairs(r *rand.Rand, deep int) []api.Pair {
	var l []api.Pair
	for _, key := range []string{"", "a", strings.Repeat("k", 127), "é"}[:r.IntN(5)] {
		l = append(l, pair(key, someValue(r, deep)))
	}
	return l
}

func someItem(r *rand.Rand, s api.Signal) api.Item {
	x := api.Item{Name: someText(r), Kind: int32(r.IntN(6)), Start: few(r), Time: few(r), Trace: trace, Span: span, Attrs: somePairs(r, 3)}
	switch s {
	case api.SignalTrace:
		x.Parent, x.Code, x.Message = span[:8*r.IntN(2)], uint8(r.IntN(3)), someText(r)
		return x
	case api.SignalLog:
		x.Trace, x.Span, x.Body = trace[:16*r.IntN(2)], span[:8*r.IntN(2)], someValue(r, 3)
		return x
	}
	x.Trace, x.Span = "", ""
	x.Name, x.Unit = strconv.Itoa(r.IntN(2)), strconv.Itoa(r.IntN(2))
	x.Kind, x.Point = somePoint(r)
	if x.Kind >= api.MetricSum && x.Kind <= api.MetricExp {
		x.Temp = uint8(r.IntN(3))
	}
	x.Mono = x.Kind == api.MetricSum && r.IntN(2) == 0
	return x
}

func somePoint(r *rand.Rand) (int32, api.Point) {
	numbers := []int32{api.MetricGauge, api.MetricSum}
	switch kind := api.PointKind(r.IntN(int(api.PointCount))); kind {
	case api.PointInt:
		return numbers[r.IntN(2)], api.Point{Kind: kind, N: int64(few(r))}
	case api.PointFloat:
		return numbers[r.IntN(2)], api.Point{Kind: kind, F: someFloat(r)}
	case api.PointHist:
		p := api.Point{Kind: kind}
		p.Counts, p.Count = someCounts(r)
		for i := 1; i < len(p.Counts); i++ {
			p.Bounds = append(p.Bounds, float64(i-2))
		}
		return api.MetricHist, someSum(r, p)
	case api.PointExp:
		p := api.Point{Kind: kind, Scale: int32(r.IntN(31) - 10), Zero: few(r) >> 10, Offset: int32(few(r)), NegOffset: int32(few(r))}
		var n, m uint64
		p.Counts, n = someCounts(r)
		p.NegCounts, m = someCounts(r)
		p.Count = p.Zero + n + m
		return api.MetricExp, someSum(r, p)
	case api.PointSummary:
		p := api.Point{Kind: kind, Count: few(r), Sum: someFloat(r)}
		for i := range r.IntN(4) {
			p.Quants = append(p.Quants, api.Quant{Q: float64(i) / 4, V: someFloat(r)})
		}
		return api.MetricSummary, p
	}
	return numbers[r.IntN(2)], api.Point{}
}

func someSum(r *rand.Rand, p api.Point) api.Point {
	if r.IntN(2) == 0 {
		p.HasSum, p.Sum = true, someFloat(r)
	}
	return p
}

func someCounts(r *rand.Rand) ([]uint64, uint64) {
	var l []uint64
	sum := uint64(0)
	for range r.IntN(5) {
		n := few(r) >> 10
		l, sum = append(l, n), sum+n
	}
	return l, sum
}

func some(r *rand.Rand, s api.Signal) api.Data {
	d := data(s)
	for range r.IntN(5) {
		g := api.Group{Scope: someText(r), Version: someText(r)}
		if r.IntN(2) == 0 {
			g.Resource, g.Attrs = somePairs(r, 2), somePairs(r, 2)
		}
		for range r.IntN(6) {
			g.Items = append(g.Items, someItem(r, s))
		}
		d.Groups = append(d.Groups, g)
	}
	return d
}

func checkErr(t *testing.T, name string, why, want api.Errno) {
	t.Helper()
	if why != want {
		t.Errorf("%s: error %d, want %d", name, why, want)
	}
}
