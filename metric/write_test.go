package metric_test

import (
	"math"
	"math/rand/v2"
	"slices"
	"strings"
	"testing"

	"penstock/api"
	"penstock/metric"
	"penstock/size"
)

// TestP61AsBytes has one metric of each kind, as its message is.
func TestP61AsBytes(t *testing.T) {
	const half = "\x00\x00\x00\x00\x00\x00\xe0\x3f"
	const whole = "\x00\x00\x00\x00\x00\x00\xf0\x3f"
	const zero, one, two, three = "\x00\x00\x00\x00\x00\x00\x00\x00", "\x01\x00\x00\x00\x00\x00\x00\x00", "\x02\x00\x00\x00\x00\x00\x00\x00", "\x03\x00\x00\x00\x00\x00\x00\x00"
	l := pairs(pair("", api.Value{}))
	for want, x := range map[string]api.Item{
		"\x0a\x01m\x2a\x0b\x0a\x09\x31" + zero:                                   of(api.MetricGauge, api.Point{Kind: api.PointInt}),
		"\x0a\x01m\x2a\x0b\x0a\x09\x31\xff\xff\xff\xff\xff\xff\xff\xff":          of(api.MetricGauge, api.Point{Kind: api.PointInt, N: -1}),
		"\x0a\x01m\x2a\x02\x0a\x00":                                              of(api.MetricGauge, api.Point{}),
		"\x1a\x01u\x3a\x11\x0a\x0b\x21" + half + "\x3a\x00" + "\x10\x02\x18\x01": {Unit: "u", Kind: api.MetricSum, Temp: 2, Mono: true, Attrs: l, Point: api.Point{Kind: api.PointFloat, F: 0.5}},
		"\x0a\x01m\x4a\x46\x0a\x42\x11" + one + "\x19" + two + "\x21" + three + "\x29" + half + "\x32\x10" + one + two + "\x3a\x08" + half + "\x4a\x00" + "\x10\x01": {
			Name: "m", Kind: api.MetricHist, Temp: 1, Start: 1, Time: 2, Attrs: l, Point: api.Point{Kind: api.PointHist, Count: 3, HasSum: true, Sum: 0.5, Counts: wholes(1, 2), Bounds: floats(0.5)}},
		"\x0a\x01m\x52\x3c\x0a\x38\x0a\x00\x19" + two + "\x21\x33\x01\x00\x00\x00\x00\x00\x00" + "\x29" + zero + "\x30\x01\x39" + one +
			"\x42\x07\x08\x02\x12\x03\x01\xac\x02" + "\x4a\x05\x08\x03\x12\x01\x05" + "\x10\x02": {
			Name: "m", Kind: api.MetricExp, Temp: 2, Time: 2, Attrs: l, Point: api.Point{Kind: api.PointExp, Count: 307, HasSum: true, Scale: -1, Zero: 1, Offset: 1, Counts: wholes(1, 300), NegOffset: -2, NegCounts: wholes(5)}},
		"\x0a\x01m\x5a\x35\x0a\x33\x21" + one + "\x29" + half + "\x32\x09\x09" + half + "\x32\x12\x09" + whole + "\x11" + half + "\x3a\x00": {
			Name: "m", Kind: api.MetricSummary, Attrs: l, Point: api.Point{Kind: api.PointSummary, Count: 1, Sum: 0.5, Quants: []api.Quant{{Q: 0.5}, {Q: 1, V: 0.5}}}},
	} {
		checkWrite(t, "what is known", points(x), inScope(want), api.OK)
		checkRead(t, "what is known", inScope(want), points(x))
	}
	checkWrite(t, "nothing", data(), "", api.OK)
	checkWrite(t, "an empty group", data(api.Group{}), "\x0a\x02\x12\x00", api.OK)
}

func TestP61AsTheTable(t *testing.T) {
	r := rand.New(rand.NewPCG(6, 1))
	checkWrite(t, "full data", full(), request(full()), api.OK)
	for _, x := range bare() {
		checkWrite(t, "a bare point", points(x), request(points(x)), api.OK)
		checkWrite(t, "two bare points", points(x, x), request(points(x, x)), api.OK)
	}
	for range 2000 {
		d := some(r)
		checkWrite(t, "any data", d, request(d), api.OK)
	}
}

// TestP61Metrics has points that are of one metric, and such as differ in one thing alone.
func TestP61Metrics(t *testing.T) {
	a := api.Item{Name: "m", Kind: api.MetricSum, Point: api.Point{Kind: api.PointInt, N: 1}}
	late := a
	late.Start, late.Time, late.Attrs, late.Point = 1, 2, pairs(pair("a", whole(1))), api.Point{Kind: api.PointFloat, F: 1}
	point := func(x api.Item) string { return bytes(1, layout{}.point(x)) }
	checkWrite(t, "points of one metric", points(a, late, a), inScope(bytes(1, "m")+bytes(7, point(a)+point(late)+point(a))), api.OK)
	for name, set := range map[string]func(*api.Item){
		"Name": func(x *api.Item) { x.Name = "n" },
		"Unit": func(x *api.Item) { x.Unit = "u" },
		"Kind": func(x *api.Item) { x.Kind = api.MetricGauge },
		"Temp": func(x *api.Item) { x.Temp = 1 },
		"Mono": func(x *api.Item) { x.Mono = true },
	} {
		b := a
		set(&b)
		d := points(a, a, b, b, a)
		s, why := metric.Write(d)
		checkErr(t, "Write of metrics that differ in "+name, why, api.OK)
		if s != request(d) || len(s) <= len(request(points(a, a, a, b, b))) {
			t.Errorf("Write of metrics that differ in %s: %x", name, s)
		}
		checkRead(t, "metrics that differ in "+name, s, d)
	}
	two := data(items(a), items(a))
	checkWrite(t, "a metric in two groups", two, request(two), api.OK)
	checkRead(t, "a metric in two groups", request(two), two)
}

// large is data whose request has MaxBytes bytes, and so many more.
func large(more int) api.Data {
	x := gauge(strings.Repeat("x", api.MaxText))
	l := slices.Repeat([]api.Item{x}, 15)
	for i := range l {
		l[i].Unit = strings.Repeat("u", i+1)
	}
	rest := api.MaxBytes - len(request(points(append(l, x)...))) + more
	return points(append(l, gauge(x.Name[:api.MaxText+rest]))...)
}

func TestP61Long(t *testing.T) {
	for _, more := range []int{-1, 0} {
		d := large(more)
		want := request(d)
		if len(want) != api.MaxBytes+more {
			t.Fatalf("the test's own data have %d bytes", len(want))
		}
		checkWrite(t, "what just fits", d, want, api.OK)
		checkRead(t, "what just fits", want, d)
	}
	checkWrite(t, "what is one byte too long", large(1), "", api.ErrLong)
	wrong := large(1)
	wrong.Groups[0].Items[15].Temp = 1
	checkWrite(t, "what is too long and not right", wrong, "", api.ErrType)
	great := gauge("m")
	great.Attrs = pairs(pair("a", list(slices.Repeat([]api.Value{text(strings.Repeat("x", api.MaxText))}, 20)...)))
	checkWrite(t, "a pair that is too long for a message", points(great), "", api.ErrLong)
	many := slices.Repeat(bare()[:1], api.MaxItems)
	checkWrite(t, "MaxItems", points(many...), request(points(many...)), api.OK)
	checkRead(t, "MaxItems", request(points(many...)), points(many...))
	checkWrite(t, "MaxItems + 1", points(append(many, many[0])...), "", api.ErrMany)
	groups := slices.Repeat([]api.Group{items(gauge("m"))}, api.MaxGroups)
	checkWrite(t, "MaxGroups", data(groups...), request(data(groups...)), api.OK)
	checkRead(t, "MaxGroups", request(data(groups...)), data(groups...))
	checkWrite(t, "MaxGroups + 1", data(append(groups, api.Group{})...), "", api.ErrMany)
}

// wrongData is data that are not right, and why: where several things are wrong the first one.
func wrongData() map[api.Errno]api.Data {
	long := strings.Repeat("a", api.MaxText+1)
	deep := whole(1)
	for range api.MaxDepth + 1 {
		deep = list(deep)
	}
	return map[api.Errno]api.Data{
		api.ErrType:  points(of(api.MetricHist, api.Point{Kind: api.PointHist, Count: 1, Counts: wholes(2)})),
		api.ErrMany:  points(of(api.MetricHist, api.Point{Kind: api.PointHist, Count: 1, Counts: make([]uint64, api.MaxParts+1)})),
		api.ErrLong:  {Signal: api.SignalLog, Groups: []api.Group{items(api.Item{Name: long, Unit: "\xff"})}},
		api.ErrUtf:   points(api.Item{Unit: "\xff"}),
		api.ErrRange: {Signal: api.SignalTrace, Groups: []api.Group{items(api.Item{})}},
		api.ErrState: points(api.Item{Kind: api.MetricGauge, Attrs: pairs(pair("", whole(1)), pair("", whole(1)))}),
		api.ErrDepth: points(api.Item{Kind: api.MetricGauge, Attrs: pairs(pair("", deep))}),
	}
}

func TestP61WriteErrors(t *testing.T) {
	for want, d := range wrongData() {
		checkWrite(t, "what is not right", d, "", want)
	}
	checkWrite(t, "nothing", api.Data{}, "", api.ErrType)
	for _, s := range []api.Signal{api.SignalTrace, api.SignalLog} {
		d := api.Data{Signal: s}
		checkWrite(t, "another signal", d, "", api.ErrType)
		x := api.Item{Trace: strings.Repeat("t", 16), Span: strings.Repeat("s", 8)}
		d.Groups = []api.Group{items(x)}
		checkWrite(t, "an item of another signal", d, "", api.ErrType)
		x.Attrs = pairs(pair("a", list(slices.Repeat([]api.Value{text(strings.Repeat("x", api.MaxText))}, 20)...)))
		d.Groups = []api.Group{items(x)}
		checkWrite(t, "an item of another signal that is too long", d, "", api.ErrType)
	}
}

func TestP64AsLongAsItIsSaid(t *testing.T) {
	r := rand.New(rand.NewPCG(6, 4))
	l := []api.Data{full(), large(-1), large(0), data(), data(api.Group{}), points(bare()...)}
	for range 1000 {
		l = append(l, some(r))
	}
	for _, d := range l {
		n, whySize := size.Size(d)
		written, why := metric.Write(d)
		if len(written) != n || why != api.OK || whySize != api.OK {
			t.Errorf("Write: %d bytes, error %d, Size says %d, error %d", len(written), why, n, whySize)
		}
	}
}

// TestP5Bits has floats that only their bits tell apart, in each place.
func TestP5Bits(t *testing.T) {
	for _, n := range []uint64{0, 1 << 63, 0x7ff0000000000001, 0x7ff8000000000000, 0x7ff8000000000001, 0xfff8000000001234, math.MaxUint64, 1} {
		f := math.Float64frombits(n)
		l := []api.Item{
			of(api.MetricGauge, api.Point{Kind: api.PointFloat, F: f}),
			of(api.MetricSum, api.Point{Kind: api.PointFloat, F: f}),
			of(api.MetricHist, api.Point{Kind: api.PointHist, HasSum: true, Sum: f}),
			of(api.MetricExp, api.Point{Kind: api.PointExp, HasSum: true, Sum: f}),
			of(api.MetricSummary, api.Point{Kind: api.PointSummary, Sum: f, Quants: []api.Quant{{V: f}}}),
		}
		for i := range l {
			l[i].Attrs = pairs(pair("f", part(f)))
		}
		if !math.IsNaN(f) {
			l = append(l, of(api.MetricHist, api.Point{Kind: api.PointHist, Counts: wholes(0, 0), Bounds: floats(f)}))
			l = append(l, of(api.MetricSummary, api.Point{Kind: api.PointSummary, Quants: []api.Quant{{Q: f}}}))
		}
		for _, x := range l {
			written, why := metric.Write(points(x))
			checkErr(t, "Write of floats", why, api.OK)
			checkRead(t, "floats", written, points(x))
		}
	}
}
