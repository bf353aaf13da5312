package trace_test

import (
	"math"
	"math/rand/v2"
	"slices"
	"strings"
	"testing"

	"penstock/api"
	"penstock/size"
	"penstock/trace"
)

func TestP51AsBytes(t *testing.T) {
	l := pairs(pair("a", whole(1)))
	for want, d := range map[string]api.Data{
		"":                 data(api.SignalTrace),
		"\x0a\x02\x12\x00": data(api.SignalLog, api.Group{}),
		"\x0a\x02\x12\x00\x0a\x07\x12\x05\x0a\x03\x0a\x01s":                  data(api.SignalTrace, api.Group{}, api.Group{Scope: "s"}),
		"\x0a\x06\x12\x04\x12\x00\x12\x00":                                   data(api.SignalLog, items(api.Item{}, api.Item{})),
		"\x0a\x0d\x0a\x09\x0a\x07\x0a\x01a\x12\x02\x18\x01\x12\x00":          data(api.SignalLog, api.Group{Resource: l}),
		"\x0a\x10\x12\x0e\x0a\x0c\x12\x01v\x1a\x07\x0a\x01a\x12\x02\x18\x01": data(api.SignalTrace, api.Group{Version: "v", Attrs: l}),
		"\x0a\x28\x12\x26\x12\x24" +
			"\x09\x02\x00\x00\x00\x00\x00\x00\x00\x10\x18\x1a\x01l\x2a\x02\x0a\x00\x32\x07\x0a\x01a\x12\x02\x18\x01" +
			"\x59\x01\x00\x00\x00\x00\x00\x00\x80": data(api.SignalLog, items(api.Item{Time: 2, Kind: 24, Name: "l", Body: text(""), Attrs: l, Start: 1<<63 + 1})),
		"\x0a\x20\x12\x1e\x12\x1c\x4a\x10" + aTrace + "\x52\x08" + aSpan: data(api.SignalLog, items(api.Item{Trace: aTrace, Span: aSpan})),
		"\x0a\x4a\x12\x48\x12\x46\x0a\x10" + aTrace + "\x12\x08" + aSpan + "\x22\x08" + aSpan + "\x2a\x01s\x30\x05" +
			"\x39\x01\x00\x00\x00\x00\x00\x00\x00\x41\x02\x00\x00\x00\x00\x00\x00\x00\x4a\x00\x7a\x05\x12\x01m\x18\x02": data(api.SignalTrace, items(api.Item{
			Trace: aTrace, Span: aSpan, Parent: aSpan, Name: "s", Kind: 5, Start: 1, Time: 2, Attrs: pairs(pair("", api.Value{})), Code: 2, Message: "m"})),
	} {
		checkWrite(t, "what is known", d, want, api.OK)
		checkRead(t, "what is known", want, d)
	}
}

func TestP51AsTheTable(t *testing.T) {
	r := rand.New(rand.NewPCG(5, 1))
	for _, s := range signals() {
		checkWrite(t, "full data", full(s), request(full(s)), api.OK)
		for range 1000 {
			d := some(r, s)
			checkWrite(t, "any data", d, request(d), api.OK)
		}
	}
}

// TestP51ZeroIsLeftOut has each field alone, and at what is next to zero.
func TestP51ZeroIsLeftOut(t *testing.T) {
	for _, s := range signals() {
		for name, set := range map[string]func(*api.Item){
			"nothing":      func(x *api.Item) {},
			"Name":         func(x *api.Item) { x.Name = "\x00" },
			"Kind":         func(x *api.Item) { x.Kind = 1 },
			"Start":        func(x *api.Item) { x.Start = 1 },
			"Time":         func(x *api.Item) { x.Time = 1 },
			"late times":   func(x *api.Item) { x.Start, x.Time = math.MaxUint64, math.MaxUint64-1 },
			"a bare pair":  func(x *api.Item) { x.Attrs = pairs(pair("", api.Value{})) },
			"a pair":       func(x *api.Item) { x.Attrs = pairs(pair("", part(0))) },
			"other things": func(x *api.Item) { x.Attrs = pairs(pair("a", part(minus)), pair("b", api.Value{Kind: api.KindBool})) },
		} {
			x := one(s)
			set(&x)
			d := data(s, items(x))
			checkWrite(t, name, d, request(d), api.OK)
			checkRead(t, name, request(d), d)
		}
	}
	for name, x := range map[string]api.Item{
		"Parent":     {Trace: aTrace, Span: aSpan, Parent: aSpan},
		"Code":       {Trace: aTrace, Span: aSpan, Code: 1},
		"Message":    {Trace: aTrace, Span: aSpan, Message: "m"},
		"many in it": {Trace: aTrace, Span: aSpan, Message: strings.Repeat("m", 128)},
	} {
		d := data(api.SignalTrace, items(x))
		checkWrite(t, name, d, request(d), api.OK)
		checkRead(t, name, request(d), d)
	}
	for name, v := range map[string]api.Value{
		"none": {}, "a text": text("é"), "an empty text": text(""), "false": {Kind: api.KindBool}, "0": whole(0), "0.0": part(0), "-0.0": part(minus),
		"NaN": part(math.NaN()), "another NaN": part(math.Float64frombits(0xfff8000000001234)), "a list": list(), "a map": table(), "bytes": {Kind: api.KindBytes},
		"what is nested": nested(api.MaxDepth),
	} {
		d := data(api.SignalLog, items(api.Item{Body: v}))
		checkWrite(t, "a Body, "+name, d, request(d), api.OK)
		checkRead(t, "a Body, "+name, request(d), d)
	}
}

// large is data of the signal whose request has MaxBytes bytes, and so many more.
func large(s api.Signal, more int) api.Data {
	x := one(s)
	x.Name = strings.Repeat("x", api.MaxText)
	l := slices.Repeat([]api.Item{x}, 15)
	rest := api.MaxBytes - len(request(data(s, items(append(l, x)...)))) + more
	last := one(s)
	last.Name = x.Name[:api.MaxText+rest]
	return data(s, items(append(l, last)...))
}

func TestP51Long(t *testing.T) {
	for _, s := range signals() {
		for _, more := range []int{-1, 0} {
			d := large(s, more)
			want := request(d)
			if len(want) != api.MaxBytes+more {
				t.Fatalf("the test's own data have %d bytes", len(want))
			}
			checkWrite(t, "what just fits", d, want, api.OK)
			checkRead(t, "what just fits", want, d)
		}
		checkWrite(t, "what is one byte too long", large(s, 1), "", api.ErrLong)
		long := one(s)
		long.Attrs = pairs(pair("a", list(slices.Repeat([]api.Value{text(strings.Repeat("x", api.MaxText))}, 20)...)))
		checkWrite(t, "a pair that is too long for a message", data(s, items(long)), "", api.ErrLong)
		checkWrite(t, "far too long", data(s, slices.Repeat([]api.Group{items(long)}, api.MaxGroups)...), "", api.ErrLong)
		wrong := large(s, 1)
		wrong.Groups[0].Items[0].Message = "\xff"
		checkWrite(t, "what is too long and not right", wrong, "", api.ErrUtf)
	}
}

func TestP51Many(t *testing.T) {
	for _, s := range signals() {
		for name, d := range map[string]api.Data{
			"MaxItems":  data(s, items(slices.Repeat([]api.Item{one(s)}, api.MaxItems)...)),
			"MaxGroups": data(s, slices.Repeat([]api.Group{items(one(s))}, api.MaxGroups)...),
		} {
			checkWrite(t, name, d, request(d), api.OK)
			checkRead(t, name, request(d), d)
		}
		checkWrite(t, "MaxItems + 1", data(s, items(slices.Repeat([]api.Item{one(s)}, api.MaxItems+1)...)), "", api.ErrMany)
		checkWrite(t, "MaxGroups + 1", data(s, make([]api.Group, api.MaxGroups+1)...), "", api.ErrMany)
	}
}

// wrongData is data that are not right, and why: where several things are wrong the first one.
func wrongData() map[api.Errno]api.Data {
	long := strings.Repeat("a", api.MaxText+1)
	return map[api.Errno]api.Data{
		api.ErrType:  data(api.SignalCount, api.Group{Scope: long}),
		api.ErrMany:  data(api.SignalLog, append(make([]api.Group, api.MaxGroups), api.Group{Scope: long})...),
		api.ErrLong:  data(api.SignalMetric, items(api.Item{Name: long, Unit: "\xff"})),
		api.ErrUtf:   data(api.SignalTrace, items(api.Item{Message: "\xff"})),
		api.ErrRange: data(api.SignalMetric, items(api.Item{Kind: 6})),
		api.ErrState: data(api.SignalLog, items(api.Item{Attrs: pairs(pair("", whole(1)), pair("", whole(1)))})),
		api.ErrDepth: data(api.SignalLog, items(api.Item{Body: nested(api.MaxDepth + 1)})),
	}
}

func TestP51WriteErrors(t *testing.T) {
	for want, d := range wrongData() {
		checkWrite(t, "what is not right", d, "", want)
	}
	checkWrite(t, "nothing", api.Data{}, "", api.ErrType)
	checkWrite(t, "metrics without any", data(api.SignalMetric), "", api.ErrType)
	point := api.Item{Name: "m", Kind: api.MetricGauge, Point: api.Point{Kind: api.PointInt}}
	checkWrite(t, "metrics", data(api.SignalMetric, items(point)), "", api.ErrType)
	point.Attrs = pairs(pair("a", list(slices.Repeat([]api.Value{text(strings.Repeat("x", api.MaxText))}, 20)...)))
	checkWrite(t, "metrics that are too long", data(api.SignalMetric, items(point)), "", api.ErrType)
}

func TestP56AsLongAsItIsSaid(t *testing.T) {
	r := rand.New(rand.NewPCG(5, 6))
	for _, s := range signals() {
		l := []api.Data{full(s), large(s, -1), large(s, 0), data(s), data(s, api.Group{})}
		for range 500 {
			l = append(l, some(r, s))
		}
		for _, d := range l {
			n, whySize := size.Size(d)
			written, why := trace.Write(d)
			if len(written) != n || why != api.OK || whySize != api.OK {
				t.Errorf("Write: %d bytes, error %d, Size says %d, error %d", len(written), why, n, whySize)
			}
		}
	}
}
