package rows

import (
	"iter"
	"math"

	"penstock/api"
)

// Request is the request of d's groups.
func (r Row) Request(d api.Data) {
	for _, g := range d.Groups {
		r.Always(1, func(r Row) { r.group(g, d.Signal) })
	}
}

// Item is a span, a log, or a point without what holds it.
func (r Row) Item(x api.Item, s api.Signal) {
	switch s {
	case api.SignalTrace:
		r.span(x)
	case api.SignalLog:
		r.log(x)
	case api.SignalMetric:
		r.point(x)
	}
}

func (r Row) group(g api.Group, s api.Signal) {
	r.Some(1, func(r Row) { r.Pairs(1, g.Resource) })
	r.Always(2, func(r Row) { r.scoped(g, s) })
}

func (r Row) scoped(g api.Group, s api.Signal) {
	r.Some(1, func(r Row) { r.scope(g) })
	if s == api.SignalMetric {
		for l := range metrics(g.Items) {
			r.Always(2, func(r Row) { r.metric(l) })
		}
		return
	}
	for _, x := range g.Items {
		r.Always(2, func(r Row) { r.Item(x, s) })
	}
}

func (r Row) scope(g api.Group) {
	r.Text(1, g.Scope)
	r.Text(2, g.Version)
	r.Pairs(3, g.Attrs)
}

func (r Row) span(x api.Item) {
	r.Text(1, x.Trace)
	r.Text(2, x.Span)
	r.Text(4, x.Parent)
	r.Text(5, x.Name)
	r.Varint(6, uint64(x.Kind))
	r.Eight(7, x.Start)
	r.Eight(8, x.Time)
	r.Pairs(9, x.Attrs)
	r.Some(15, func(r Row) { r.status(x) })
}

func (r Row) status(x api.Item) {
	r.Text(2, x.Message)
	r.Varint(3, uint64(x.Code))
}

func (r Row) log(x api.Item) {
	r.Eight(1, x.Time)
	r.Varint(2, uint64(x.Kind))
	r.Text(3, x.Name)
	if x.Body.Kind != api.KindNone {
		r.Value(5, x.Body)
	}
	r.Pairs(6, x.Attrs)
	r.Text(9, x.Trace)
	r.Text(10, x.Span)
	r.Eight(11, x.Start)
}

// metrics yields the items that are one metric: those behind one another that are alike.
func metrics(l []api.Item) iter.Seq[[]api.Item] {
	return func(yield func([]api.Item) bool) {
		for rest := l; len(rest) > 0; {
			n := 1
			for n < len(rest) && isOneMetric(rest[0], rest[n]) {
				n++
			}
			if !yield(rest[:n]) {
				return
			}
			rest = rest[n:]
		}
	}
}

func isOneMetric(a, b api.Item) bool {
	return a.Name == b.Name && a.Unit == b.Unit && a.Kind == b.Kind && a.Temp == b.Temp && a.Mono == b.Mono
}

// metric is handed its points: one at least.
func (r Row) metric(l []api.Item) {
	r.Text(1, l[0].Name)
	r.Text(3, l[0].Unit)
	r.Always(pointsNum(l[0].Kind), func(r Row) { r.points(l) })
}

// pointsNum is the field of a metric's points.
func pointsNum(kind int32) int {
	switch kind {
	case api.MetricGauge:
		return 5
	case api.MetricSum:
		return 7
	case api.MetricHist:
		return 9
	case api.MetricExp:
		return 10
	}
	return 11
}

func (r Row) points(l []api.Item) {
	for _, x := range l {
		r.Always(1, func(r Row) { r.point(x) })
	}
	r.Varint(2, uint64(l[0].Temp))
	if l[0].Mono {
		r.Varint(3, 1)
	}
}

func (r Row) point(x api.Item) {
	if x.Kind == api.MetricExp { // its pairs alone stand ahead of all
		r.Pairs(1, x.Attrs)
	}
	r.Eight(2, x.Start)
	r.Eight(3, x.Time)
	switch x.Kind {
	case api.MetricGauge, api.MetricSum:
		r.number(x)
	case api.MetricHist:
		r.hist(x)
	case api.MetricExp:
		r.exp(x.Point)
	case api.MetricSummary:
		r.summary(x)
	}
}

func (r Row) number(x api.Item) {
	switch x.Point.Kind {
	case api.PointFloat:
		r.Number(4, api.WireEight, math.Float64bits(x.Point.F))
	case api.PointInt:
		r.Number(6, api.WireEight, uint64(x.Point.N))
	}
	r.Pairs(7, x.Attrs)
}

func (r Row) hist(x api.Item) {
	r.total(x.Point)
	r.Some(6, func(r Row) {
		for _, n := range x.Point.Counts {
			r.Bare(api.WireEight, n)
		}
	})
	r.Some(7, func(r Row) {
		for _, f := range x.Point.Bounds {
			r.Bare(api.WireEight, math.Float64bits(f))
		}
	})
	r.Pairs(9, x.Attrs)
}

func (r Row) exp(p api.Point) {
	r.total(p)
	r.Zig(6, p.Scale)
	r.Eight(7, p.Zero)
	r.Some(8, func(r Row) { r.buckets(p.Offset, p.Counts) })
	r.Some(9, func(r Row) { r.buckets(p.NegOffset, p.NegCounts) })
}

// total is how many numbers were counted, and their sum, if that is known.
func (r Row) total(p api.Point) {
	r.Eight(4, p.Count)
	if p.HasSum {
		r.Number(5, api.WireEight, math.Float64bits(p.Sum))
	}
}

func (r Row) buckets(offset int32, counts []uint64) {
	r.Zig(1, offset)
	r.Some(2, func(r Row) {
		for _, n := range counts {
			r.Bare(api.WireVarint, n)
		}
	})
}

func (r Row) summary(x api.Item) {
	p := x.Point
	r.Eight(4, p.Count)
	r.Float(5, p.Sum)
	for _, q := range p.Quants {
		r.Always(6, func(r Row) {
			r.Float(1, q.Q)
			r.Float(2, q.V)
		})
	}
	r.Pairs(7, x.Attrs)
}
