package metric

import (
	"math"

	"penstock/api"
	"penstock/fail"
	"penstock/message"
	"penstock/wire"
)

func number(r message.Reader) api.Point {
	f, _ := r.Last(api.WireEight, 4, 6)
	switch f.Num {
	case 4:
		return api.Point{Kind: api.PointFloat, F: math.Float64frombits(f.N)}
	case 6:
		return api.Point{Kind: api.PointInt, N: int64(f.N)}
	}
	return api.Point{}
}

func hist(r message.Reader) api.Point {
	p := total(r, api.PointHist)
	p.Counts = list(r, 6, api.WireEight, itself)
	p.Bounds = list(r, 7, api.WireEight, math.Float64frombits)
	return p
}

func exp(r message.Reader) api.Point {
	p := total(r, api.PointExp)
	p.Scale = zag(r.Varint(6))
	p.Zero = r.Eight(7)
	p.Offset, p.Counts = buckets(r.Inner(8))
	p.NegOffset, p.NegCounts = buckets(r.Inner(9))
	return p
}

// total is a point of how many numbers were counted, and of their sum, if that is known.
func total(r message.Reader, kind api.PointKind) api.Point {
	sum, is := r.Last(api.WireEight, 5)
	return api.Point{Kind: kind, Count: r.Eight(4), HasSum: is, Sum: math.Float64frombits(sum.N)}
}

func buckets(r message.Reader) (int32, []uint64) {
	offset := zag(r.Varint(1))
	return offset, list(r, 2, api.WireVarint, itself)
}

func summary(r message.Reader) api.Point {
	p := api.Point{Kind: api.PointSummary, Count: r.Eight(4), Sum: math.Float64frombits(r.Eight(5))}
	for _, s := range r.All(6) {
		q := message.Read(s)
		p.Quants = append(p.Quants, api.Quant{Q: math.Float64frombits(q.Eight(1)), V: math.Float64frombits(q.Eight(2))})
	}
	return p
}

// list is the numbers of the fields of that number, in order: one for each of that wire, all that are packed for each of bytes.
func list[T any](r message.Reader, num int, w api.Wire, as func(uint64) T) []T {
	var out []T
	for _, f := range r.Of(num) {
		switch f.Wire {
		case w:
			out = append(out, as(f.N))
		case api.WireBytes:
			for left := f.S; left != ""; {
				n, size := message.Bare(left, w)
				out = append(out, as(n))
				left = left[size:]
			}
		}
	}
	return out
}

func itself(n uint64) uint64 { return n }

// zag is the number whose zigzag n is.
func zag(n uint64) int32 {
	z := wire.Zag(n)
	fail.Unless(math.MinInt32 <= z && z <= math.MaxInt32, api.ErrRange)
	return int32(z)
}
