package pdata

import (
	"math"
	"math/bits"

	"penstock/api"
	"penstock/fail"
	"penstock/value"
)

const (
	traceSize  = 16 // bytes of a trace's name, of a span's
	spanSize   = 8
	mostSpan   = 5 // the last kind of spans, of log records, the last code, the last temporality
	mostLog    = 24
	mostCode   = 2
	mostTemp   = 2
	leastScale = -10
	mostScale  = 20
)

// Check tells why d are not right.
func Check(d api.Data) api.Errno {
	return fail.Caught(func() { checkData(d) })
}

func checkData(d api.Data) {
	fail.Unless(d.Signal > api.SignalNone && d.Signal < api.SignalCount, api.ErrType)
	fail.Unless(len(d.Groups) <= api.MaxGroups && Items(d) <= api.MaxItems, api.ErrMany)
	for _, g := range d.Groups {
		fail.On(value.CheckPairs(g.Resource))
		checkTexts(g.Scope, g.Version)
		fail.On(value.CheckPairs(g.Attrs))
		for _, x := range g.Items {
			checkItem(x, d.Signal)
		}
	}
}

func checkItem(x api.Item, s api.Signal) {
	checkTexts(x.Name, x.Unit, x.Message)
	fail.Unless(isInRange(x, s), api.ErrRange)
	fail.On(value.CheckPairs(x.Attrs))
	fail.On(value.Check(x.Body))
	checkPoint(x.Point)
	fail.Unless(isBare(x, s), api.ErrType)
	fail.Unless(s != api.SignalMetric || isMetric(x), api.ErrType)
}

// checkTexts goes by value.Check: the document says the same of a text there.
func checkTexts(l ...string) {
	for _, s := range l {
		fail.On(value.Check(api.Value{Kind: api.KindText, S: s}))
	}
}

func isInRange(x api.Item, s api.Signal) bool {
	switch s {
	case api.SignalTrace:
		return isFrom(x.Kind, 0, mostSpan) && x.Code <= mostCode &&
			len(x.Trace) == traceSize && len(x.Span) == spanSize && isNoneOr(x.Parent, spanSize)
	case api.SignalLog:
		return isFrom(x.Kind, 0, mostLog) && isNoneOr(x.Trace, traceSize) && isNoneOr(x.Span, spanSize)
	}
	return isFrom(x.Kind, api.MetricGauge, api.MetricSummary) && x.Temp <= mostTemp
}

func isFrom(n, least, most int32) bool {
	return least <= n && n <= most
}

func isNoneOr(s string, size int) bool {
	return s == "" || len(s) == size
}

// isBare tells whether the fields of x that its signal has not are zero.
func isBare(x api.Item, s api.Signal) bool {
	x.Name, x.Kind, x.Start, x.Time, x.Attrs = "", 0, 0, 0, nil
	switch s {
	case api.SignalTrace:
		x.Trace, x.Span, x.Parent, x.Code, x.Message = "", "", "", 0, ""
	case api.SignalLog:
		x.Trace, x.Span, x.Body = "", "", api.Value{}
	case api.SignalMetric:
		x.Unit, x.Temp, x.Mono, x.Point = "", 0, false, api.Point{}
	}
	return SameItem(x, api.Item{})
}

// isMetric tells whether Temp, Mono and the point are what the kind of metric lets them be.
func isMetric(x api.Item) bool {
	k := x.Point.Kind
	switch x.Kind {
	case api.MetricGauge:
		return x.Temp == 0 && !x.Mono && isNumber(k)
	case api.MetricSum:
		return isNumber(k)
	case api.MetricHist:
		return !x.Mono && k == api.PointHist
	case api.MetricExp:
		return !x.Mono && k == api.PointExp
	case api.MetricSummary:
		return x.Temp == 0 && !x.Mono && k == api.PointSummary
	}
	return false
}

func isNumber(k api.PointKind) bool {
	return k == api.PointNone || k == api.PointInt || k == api.PointFloat
}

func checkPoint(p api.Point) {
	for _, n := range []int{len(p.Bounds), len(p.Counts), len(p.NegCounts), len(p.Quants)} {
		fail.Unless(n <= api.MaxParts, api.ErrMany)
	}
	fail.Unless(isPoint(p), api.ErrType)
}

func isPoint(p api.Point) bool {
	if p.Kind >= api.PointCount || !samePoint(others(p), api.Point{}) {
		return false
	}
	switch p.Kind {
	case api.PointHist:
		return isSumRight(p) && isHist(p)
	case api.PointExp:
		return isSumRight(p) && isExp(p)
	case api.PointSummary:
		return isSummary(p)
	}
	return true
}

// others is p without the fields that its kind has.
func others(p api.Point) api.Point {
	switch p.Kind {
	case api.PointInt:
		p.N = 0
	case api.PointFloat:
		p.F = 0
	case api.PointHist:
		p.Count, p.Sum, p.HasSum = 0, 0, false
		p.Bounds, p.Counts = nil, nil
	case api.PointExp:
		p.Count, p.Sum, p.HasSum = 0, 0, false
		p.Scale, p.Zero = 0, 0
		p.Offset, p.Counts = 0, nil
		p.NegOffset, p.NegCounts = 0, nil
	case api.PointSummary:
		p.Count, p.Sum, p.Quants = 0, 0, nil
	}
	p.Kind = api.PointNone
	return p
}

func isSumRight(p api.Point) bool {
	return p.HasSum || sameFloat(p.Sum, 0)
}

func isHist(p api.Point) bool {
	if len(p.Counts) == 0 {
		return len(p.Bounds) == 0
	}
	n, is := together(p.Counts)
	return is && n == p.Count && len(p.Counts) == len(p.Bounds)+1 && isRising(p.Bounds)
}

func isExp(p api.Point) bool {
	n, is := together([]uint64{p.Zero}, p.Counts, p.NegCounts)
	return is && n == p.Count && isFrom(p.Scale, leastScale, mostScale)
}

func isSummary(p api.Point) bool {
	var l []float64
	for _, q := range p.Quants {
		if q.Q < 0 || q.Q > 1 {
			return false
		}
		l = append(l, q.Q)
	}
	return isRising(l)
}

// isRising tells whether no number is NaN, and each is above the one ahead of it.
func isRising(l []float64) bool {
	for i, f := range l {
		if math.IsNaN(f) || i > 0 && f <= l[i-1] {
			return false
		}
	}
	return true
}

// together is all counts of all lists put together; false, if that is beyond a uint64.
func together(lists ...[]uint64) (uint64, bool) {
	var sum, over uint64
	for _, l := range lists {
		for _, n := range l {
			sum, over = bits.Add64(sum, n, 0)
			if over > 0 {
				return 0, false
			}
		}
	}
	return sum, true
}
