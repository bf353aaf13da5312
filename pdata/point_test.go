package pdata_test

import (
	"math"
	"slices"
	"strconv"
	"testing"

	"penstock/api"
)

// checkPoint tells what Check says of a metric of the kind that such a point has; and of a span, a log with it: it is ErrType, unless it is zero.
func checkPoint(t *testing.T, name string, p api.Point, want api.Errno) {
	t.Helper()
	kinds := map[api.PointKind]int32{api.PointHist: api.MetricHist, api.PointExp: api.MetricExp, api.PointSummary: api.MetricSummary}
	x := api.Item{Name: "m", Kind: max(kinds[p.Kind], api.MetricGauge), Point: p}
	checkItem(t, name, api.SignalMetric, x, want)
	for _, s := range signals()[:2] {
		y := one(s, "n")
		y.Point = p
		whyOther := api.ErrType
		if want == api.ErrMany || want == api.OK && p.Kind == api.PointNone {
			whyOther = want
		}
		checkItem(t, name+", of another signal", s, y, whyOther)
	}
}

func TestP31RightPoints(t *testing.T) {
	inf, nan := math.Inf(1), math.NaN()
	for name, p := range map[string]api.Point{
		"none":                  {},
		"0":                     {Kind: api.PointInt},
		"int":                   {Kind: api.PointInt, N: math.MinInt64},
		"float 0":               {Kind: api.PointFloat},
		"float":                 {Kind: api.PointFloat, F: 1.5},
		"-0":                    {Kind: api.PointFloat, F: minus},
		"NaN":                   {Kind: api.PointFloat, F: nan},
		"infinite":              {Kind: api.PointFloat, F: -inf},
		"hist":                  {Kind: api.PointHist},
		"hist, count alone":     {Kind: api.PointHist, Count: 5},
		"hist, most alone":      {Kind: api.PointHist, Count: math.MaxUint64, HasSum: true, Sum: nan},
		"hist, one count":       {Kind: api.PointHist, Count: 5, Counts: []uint64{5}},
		"hist, one count of 0":  {Kind: api.PointHist, Counts: []uint64{0}},
		"hist, counts":          {Kind: api.PointHist, Count: 6, Counts: []uint64{1, 2, 3}, Bounds: []float64{-1, 1}},
		"hist, counts of 0":     {Kind: api.PointHist, Counts: []uint64{0, 0}, Bounds: []float64{minus}},
		"hist, infinite bounds": {Kind: api.PointHist, Counts: make([]uint64, 4), Bounds: []float64{-inf, 0, inf}},
		"hist, near bounds":     {Kind: api.PointHist, Counts: make([]uint64, 3), Bounds: []float64{minus, math.SmallestNonzeroFloat64}},
		"hist, the most":        {Kind: api.PointHist, Count: math.MaxUint64, Counts: []uint64{math.MaxUint64 - 1, 0, 1}, Bounds: []float64{1, 2}},
		"hist, MaxParts":        {Kind: api.PointHist, Count: api.MaxParts, Counts: slices.Repeat([]uint64{1}, api.MaxParts), Bounds: rising(api.MaxParts - 1)},
		"hist, sum":             {Kind: api.PointHist, HasSum: true, Sum: -1},
		"hist, sum 0":           {Kind: api.PointHist, HasSum: true},
		"exp":                   {Kind: api.PointExp},
		"exp, scale -10":        {Kind: api.PointExp, Scale: -10},
		"exp, scale 20":         {Kind: api.PointExp, Scale: 20},
		"exp, zero":             {Kind: api.PointExp, Count: 7, Zero: 7},
		"exp, counts":           {Kind: api.PointExp, Count: 21, Zero: 1, Counts: []uint64{2, 3}, NegCounts: []uint64{4, 5, 6}},
		"exp, negative":         {Kind: api.PointExp, Count: 4, NegCounts: []uint64{4}, NegOffset: math.MinInt32, HasSum: true, Sum: minus},
		"exp, offset":           {Kind: api.PointExp, Offset: math.MaxInt32},
		"exp, the most":         {Kind: api.PointExp, Count: math.MaxUint64, Zero: math.MaxUint64 - 2, Counts: []uint64{1}, NegCounts: []uint64{1}},
		"exp, MaxParts":         {Kind: api.PointExp, Counts: make([]uint64, api.MaxParts), NegCounts: make([]uint64, api.MaxParts)},
		"summary":               {Kind: api.PointSummary},
		"summary, sum":          {Kind: api.PointSummary, Count: math.MaxUint64, Sum: minus},
		"summary, quantiles":    {Kind: api.PointSummary, Sum: 1, Quants: []api.Quant{{Q: 0, V: nan}, {Q: 0.5, V: inf}, {Q: 1, V: -1}}},
		"summary, -0":           {Kind: api.PointSummary, Quants: []api.Quant{{Q: minus}}},
		"summary, MaxParts":     {Kind: api.PointSummary, Quants: quants(api.MaxParts)},
		"empty lists":           {Kind: api.PointInt, Bounds: []float64{}, Counts: []uint64{}, NegCounts: []uint64{}, Quants: []api.Quant{}},
	} {
		checkPoint(t, name, p, api.OK)
	}
}

func rising(n int) []float64 {
	l := make([]float64, n)
	for i := range l {
		l[i] = float64(i)
	}
	return l
}

func quants(n int) []api.Quant {
	l := make([]api.Quant, n)
	for i := range l {
		l[i].Q = float64(i) / float64(n)
	}
	return l
}

func TestP31WrongPoints(t *testing.T) {
	inf, nan := math.Inf(1), math.NaN()
	for name, p := range map[string]api.Point{
		"no kind":                     {Kind: api.PointCount},
		"no kind, the last":           {Kind: 255},
		"hist, bounds alone":          {Kind: api.PointHist, Bounds: []float64{1}},
		"hist, as many bounds":        {Kind: api.PointHist, Counts: []uint64{0}, Bounds: []float64{1}},
		"hist, too few bounds":        {Kind: api.PointHist, Counts: []uint64{0, 0, 0}, Bounds: []float64{1}},
		"hist, no bounds":             {Kind: api.PointHist, Counts: []uint64{0, 0}},
		"hist, bounds that are one":   {Kind: api.PointHist, Counts: make([]uint64, 3), Bounds: []float64{1, 1}},
		"hist, -0 and 0":              {Kind: api.PointHist, Counts: make([]uint64, 3), Bounds: []float64{minus, 0}},
		"hist, 0 and -0":              {Kind: api.PointHist, Counts: make([]uint64, 3), Bounds: []float64{0, minus}},
		"hist, falling bounds":        {Kind: api.PointHist, Counts: make([]uint64, 4), Bounds: []float64{1, 3, 2}},
		"hist, infinite bounds twice": {Kind: api.PointHist, Counts: make([]uint64, 3), Bounds: []float64{inf, inf}},
		"hist, a bound NaN":           {Kind: api.PointHist, Counts: make([]uint64, 2), Bounds: []float64{nan}},
		"hist, the last bound NaN":    {Kind: api.PointHist, Counts: make([]uint64, 3), Bounds: []float64{1, nan}},
		"hist, the first bound NaN":   {Kind: api.PointHist, Counts: make([]uint64, 3), Bounds: []float64{nan, 1}},
		"hist, count too low":         {Kind: api.PointHist, Count: 2, Counts: []uint64{1, 2}, Bounds: []float64{1}},
		"hist, count too high":        {Kind: api.PointHist, Count: 4, Counts: []uint64{1, 2}, Bounds: []float64{1}},
		"hist, a count of 0 alone":    {Kind: api.PointHist, Count: 1, Counts: []uint64{0}},
		"hist, beyond":                {Kind: api.PointHist, Count: 0, Counts: []uint64{math.MaxUint64, 1}, Bounds: []float64{1}},
		"hist, beyond by more":        {Kind: api.PointHist, Count: math.MaxUint64 - 1, Counts: []uint64{math.MaxUint64, math.MaxUint64}, Bounds: []float64{1}},
		"hist, beyond and back":       {Kind: api.PointHist, Count: 1, Counts: []uint64{1 << 63, 1 << 63, 1}, Bounds: []float64{1, 2}},
		"hist, sum that is none":      {Kind: api.PointHist, Sum: 1},
		"hist, sum -0 that is none":   {Kind: api.PointHist, Sum: minus},
		"hist, sum NaN that is none":  {Kind: api.PointHist, Sum: nan},
		"exp, scale -11":              {Kind: api.PointExp, Scale: -11},
		"exp, scale 21":               {Kind: api.PointExp, Scale: 21},
		"exp, the least scale":        {Kind: api.PointExp, Scale: math.MinInt32},
		"exp, count alone":            {Kind: api.PointExp, Count: 1},
		"exp, zero alone":             {Kind: api.PointExp, Zero: 1},
		"exp, count without zero":     {Kind: api.PointExp, Count: 5, Zero: 1, Counts: []uint64{2}, NegCounts: []uint64{3}},
		"exp, count without counts":   {Kind: api.PointExp, Count: 4, Zero: 1, Counts: []uint64{2}, NegCounts: []uint64{3}},
		"exp, count without negative": {Kind: api.PointExp, Count: 3, Zero: 1, Counts: []uint64{2}, NegCounts: []uint64{3}},
		"exp, beyond by zero":         {Kind: api.PointExp, Zero: math.MaxUint64, Counts: []uint64{1}},
		"exp, beyond by negative":     {Kind: api.PointExp, Zero: 1, Counts: []uint64{1}, NegCounts: []uint64{math.MaxUint64 - 1}},
		"exp, beyond in negative":     {Kind: api.PointExp, Count: 0, NegCounts: []uint64{math.MaxUint64, 1}},
		"exp, sum that is none":       {Kind: api.PointExp, Sum: minus},
		"summary, has a sum":          {Kind: api.PointSummary, HasSum: true, Sum: 1},
		"summary, below 0":            {Kind: api.PointSummary, Quants: []api.Quant{{Q: -math.SmallestNonzeroFloat64}}},
		"summary, above 1":            {Kind: api.PointSummary, Quants: []api.Quant{{Q: math.Nextafter(1, 2)}}},
		"summary, NaN":                {Kind: api.PointSummary, Quants: []api.Quant{{Q: nan}}},
		"summary, NaN behind":         {Kind: api.PointSummary, Quants: []api.Quant{{Q: 0.5}, {Q: nan}}},
		"summary, NaN ahead":          {Kind: api.PointSummary, Quants: []api.Quant{{Q: nan}, {Q: 0.5}}},
		"summary, infinite":           {Kind: api.PointSummary, Quants: []api.Quant{{Q: inf}}},
		"summary, one twice":          {Kind: api.PointSummary, Quants: []api.Quant{{Q: 0.5}, {Q: 0.5, V: 1}}},
		"summary, -0 and 0":           {Kind: api.PointSummary, Quants: []api.Quant{{Q: minus}, {Q: 0}}},
		"summary, falling":            {Kind: api.PointSummary, Quants: []api.Quant{{Q: 0.5}, {Q: 0.25}}},
	} {
		checkPoint(t, name, p, api.ErrType)
	}
}

// TestP31PointFields has each field in each kind of point: it is only right where the kind has it.
func TestP31PointFields(t *testing.T) {
	const (
		n, f, h, e, s = api.PointInt, api.PointFloat, api.PointHist, api.PointExp, api.PointSummary
	)
	for name, c := range map[string]struct {
		p   api.Point
		has []api.PointKind
	}{
		"N":           {api.Point{N: 1}, []api.PointKind{n}},
		"F":           {api.Point{F: 1}, []api.PointKind{f}},
		"F -0":        {api.Point{F: minus}, []api.PointKind{f}},
		"F NaN":       {api.Point{F: math.NaN()}, []api.PointKind{f}},
		"Count":       {api.Point{Count: 1}, []api.PointKind{h, s}}, // of an exponential one there must be as many
		"Count, Zero": {api.Point{Count: 1, Zero: 1}, []api.PointKind{e}},
		"Sum":         {api.Point{Sum: 1}, []api.PointKind{s}},
		"Sum -0":      {api.Point{Sum: minus}, []api.PointKind{s}},
		"HasSum":      {api.Point{HasSum: true}, []api.PointKind{h, e}},
		"HasSum, Sum": {api.Point{HasSum: true, Sum: 1}, []api.PointKind{h, e}},
		"Bounds":      {api.Point{Bounds: []float64{0}, Counts: []uint64{0, 0}}, []api.PointKind{h}},
		"Counts":      {api.Point{Counts: []uint64{0}}, []api.PointKind{h, e}},
		"Scale":       {api.Point{Scale: 1}, []api.PointKind{e}},
		"Zero":        {api.Point{Zero: 1}, nil},
		"Offset":      {api.Point{Offset: -1}, []api.PointKind{e}},
		"NegOffset":   {api.Point{NegOffset: 1}, []api.PointKind{e}},
		"NegCounts":   {api.Point{NegCounts: []uint64{0}}, []api.PointKind{e}},
		"Quants":      {api.Point{Quants: []api.Quant{{}}}, []api.PointKind{s}},
	} {
		for kind := range api.PointCount {
			p, want := c.p, api.ErrType
			p.Kind = kind
			if slices.Contains(c.has, kind) {
				want = api.OK
			}
			checkPoint(t, name+" of point "+strconv.Itoa(int(kind)), p, want)
		}
	}
}

func TestP31ManyOfAPoint(t *testing.T) {
	for kind := range api.PointCount + 2 { // whether the kind has the list or not, and is one or not
		for name, p := range map[string]api.Point{
			"Bounds":                 {Bounds: rising(api.MaxParts + 1)},
			"Counts":                 {Counts: make([]uint64, api.MaxParts+1)},
			"NegCounts":              {NegCounts: make([]uint64, api.MaxParts+1)},
			"Quants":                 {Quants: quants(api.MaxParts + 1)},
			"Counts for many Bounds": {Counts: make([]uint64, api.MaxParts+1), Bounds: rising(api.MaxParts)},
			"Counts beyond":          {Count: 1, Counts: slices.Repeat([]uint64{math.MaxUint64}, api.MaxParts+1)},
			"Quants below 0":         {HasSum: true, Quants: slices.Repeat([]api.Quant{{Q: -1}}, api.MaxParts+1)},
		} {
			p.Kind = kind
			checkPoint(t, name, p, api.ErrMany)
		}
	}
}
