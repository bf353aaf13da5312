package metric

import (
	"math"

	"penstock/api"
	"penstock/message"
)

// shape is how metrics of a kind are read: the field of a point's pairs, and what else the point has.
type shape struct {
	kind  int32
	pairs int
	point func(message.Reader) api.Point
}

// shapes is which field of a metric has points, and of which kind.
func shapes() map[int]shape {
	return map[int]shape{
		5:  {api.MetricGauge, 7, number},
		7:  {api.MetricSum, 7, number},
		9:  {api.MetricHist, 9, hist},
		10: {api.MetricExp, 1, exp},
		11: {api.MetricSummary, 7, summary},
	}
}

// items is one for each point of a metric.
func items(r message.Reader) []api.Item {
	known := shapes()
	var nums []int
	for num := range known { // in whichever order: the fields' own one tells which is the last
		nums = append(nums, num)
	}
	f, is := r.Last(api.WireBytes, nums...)
	if !is {
		return nil
	}
	how := known[f.Num]
	points := message.Read(f.S)
	m := api.Item{Name: r.Bytes(1), Unit: r.Bytes(3), Kind: how.kind, Temp: temp(how.kind, points)}
	m.Mono = m.Kind == api.MetricSum && points.Varint(3) != 0
	var out []api.Item
	for _, s := range points.All(1) {
		out = append(out, item(m, how, message.Read(s)))
	}
	return out
}

// temp is the greatest one, which is none, for a number that is too great.
func temp(kind int32, points message.Reader) uint8 {
	if kind == api.MetricGauge || kind == api.MetricSummary {
		return 0
	}
	return uint8(min(points.Varint(2), math.MaxUint8))
}

// item is handed what all points of its metric have.
func item(m api.Item, how shape, r message.Reader) api.Item {
	m.Start, m.Time = r.Eight(2), r.Eight(3)
	m.Attrs = r.Pairs(how.pairs)
	m.Point = how.point(r)
	return m
}
