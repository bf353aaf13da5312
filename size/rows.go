package size

import (
	"iter"

	"penstock/api"
	"penstock/wire"
)

// The rows of the document's table: each method counts what stands in one of its messages.

func (c *counter) request(d api.Data) {
	for _, g := range d.Groups {
		c.always(1, func(c *counter) { c.group(g, d.Signal) })
	}
}

func (c *counter) group(g api.Group, s api.Signal) {
	c.some(1, func(c *counter) { c.pairs(1, g.Resource) })
	c.always(2, func(c *counter) { c.scoped(g, s) })
}

func (c *counter) scoped(g api.Group, s api.Signal) {
	c.some(1, func(c *counter) { c.scope(g) })
	if s == api.SignalMetric {
		for l := range metrics(g.Items) {
			c.always(2, func(c *counter) { c.metric(l) })
		}
		return
	}
	for _, x := range g.Items {
		c.always(2, func(c *counter) { c.item(x, s) })
	}
}

func (c *counter) scope(g api.Group) {
	c.text(1, g.Scope)
	c.text(2, g.Version)
	c.pairs(3, g.Attrs)
}

// item is a span, a log, or a point without what holds it.
func (c *counter) item(x api.Item, s api.Signal) {
	switch s {
	case api.SignalTrace:
		c.span(x)
	case api.SignalLog:
		c.log(x)
	case api.SignalMetric:
		c.point(x)
	}
}

func (c *counter) span(x api.Item) {
	c.text(1, x.Trace)
	c.text(2, x.Span)
	c.text(4, x.Parent)
	c.text(5, x.Name)
	c.varint(6, uint64(x.Kind))
	c.eight(7, x.Start)
	c.eight(8, x.Time)
	c.pairs(9, x.Attrs)
	c.some(15, func(c *counter) { c.status(x) })
}

func (c *counter) status(x api.Item) {
	c.text(2, x.Message)
	c.varint(3, uint64(x.Code))
}

func (c *counter) log(x api.Item) {
	c.eight(1, x.Time)
	c.varint(2, uint64(x.Kind))
	c.text(3, x.Name)
	c.some(5, func(c *counter) { c.value(x.Body) })
	c.pairs(6, x.Attrs)
	c.text(9, x.Trace)
	c.text(10, x.Span)
	c.eight(11, x.Start)
}

// metrics yields the items that are one metric: those behind one another that are alike.
func metrics(l []api.Item) iter.Seq[[]api.Item] {
	return func(yield func([]api.Item) bool) {
		for rest := l; len(rest) > 0; {
			n := 1
			for n < len(rest) && isOneMetric(rest[0], rest[n]) {
				n++
			}
			if !yield(rest[:n]) {
				return
			}
			rest = rest[n:]
		}
	}
}

func isOneMetric(a, b api.Item) bool {
	return a.Name == b.Name && a.Unit == b.Unit && a.Kind == b.Kind && a.Temp == b.Temp && a.Mono == b.Mono
}

// metric is handed its points: one at least.
func (c *counter) metric(l []api.Item) {
	c.text(1, l[0].Name)
	c.text(3, l[0].Unit)
	c.always(pointsNum(l[0].Kind), func(c *counter) { c.points(l) })
}

// pointsNum is the field of a metric's points.
func pointsNum(kind int32) int {
	switch kind {
	case api.MetricGauge:
		return 5
	case api.MetricSum:
		return 7
	case api.MetricHist:
		return 9
	case api.MetricExp:
		return 10
	}
	return 11
}

func (c *counter) points(l []api.Item) {
	for _, x := range l {
		c.always(1, func(c *counter) { c.point(x) })
	}
	c.varint(2, uint64(l[0].Temp))
	if l[0].Mono {
		c.varint(3, 1)
	}
}

func (c *counter) point(x api.Item) {
	c.eight(2, x.Start)
	c.eight(3, x.Time)
	switch x.Kind {
	case api.MetricGauge, api.MetricSum:
		c.number(x)
	case api.MetricHist:
		c.hist(x)
	case api.MetricExp:
		c.exp(x)
	case api.MetricSummary:
		c.summary(x)
	}
}

func (c *counter) number(x api.Item) {
	switch x.Point.Kind {
	case api.PointFloat:
		c.field(4, api.WireEight, 0) // there, whatever the number is
	case api.PointInt:
		c.field(6, api.WireEight, 0)
	}
	c.pairs(7, x.Attrs)
}

func (c *counter) hist(x api.Item) {
	c.total(x.Point)
	c.some(6, func(c *counter) { c.n += 8 * len(x.Point.Counts) })
	c.some(7, func(c *counter) { c.n += 8 * len(x.Point.Bounds) })
	c.pairs(9, x.Attrs)
}

func (c *counter) exp(x api.Item) {
	p := x.Point
	c.pairs(1, x.Attrs)
	c.total(p)
	c.zig(6, p.Scale)
	c.eight(7, p.Zero)
	c.some(8, func(c *counter) { c.buckets(p.Offset, p.Counts) })
	c.some(9, func(c *counter) { c.buckets(p.NegOffset, p.NegCounts) })
}

// total is how many numbers were counted, and their sum, if that is known.
func (c *counter) total(p api.Point) {
	c.eight(4, p.Count)
	if p.HasSum {
		c.field(5, api.WireEight, 0)
	}
}

func (c *counter) buckets(offset int32, counts []uint64) {
	c.zig(1, offset)
	c.some(2, func(c *counter) {
		for _, n := range counts {
			c.n += len(wire.Num(n))
		}
	})
}

func (c *counter) summary(x api.Item) {
	p := x.Point
	c.eight(4, p.Count)
	c.float(5, p.Sum)
	for _, q := range p.Quants {
		c.always(6, func(c *counter) {
			c.float(1, q.Q)
			c.float(2, q.V)
		})
	}
	c.pairs(7, x.Attrs)
}
