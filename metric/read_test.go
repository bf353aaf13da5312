package metric_test

import (
	"math"
	"math/rand/v2"
	"runtime"
	"slices"
	"strconv"
	"strings"
	"testing"

	"penstock/api"
	"penstock/metric"
)

func TestP61Groups(t *testing.T) {
	l := pairs(pair("a", whole(1)))
	resource := bytes(1, pairsOf(1, l))
	point := of(api.MetricGauge, api.Point{})
	record := bytes(2, bytes(1, "m")+bytes(5, bytes(1, "")))
	for name, x := range map[string]struct {
		request string
		want    []api.Group
	}{
		"nothing":                   {"", nil},
		"a group without scoped":    {bytes(1, resource), nil},
		"scoped without any":        {inGroup(""), make([]api.Group, 1)},
		"two of a group":            {bytes(1, bytes(2, bytes(1, bytes(1, "s")))+resource+bytes(2, record)), []api.Group{{Resource: l, Scope: "s"}, {Resource: l, Items: []api.Item{point}}}},
		"a scope behind it all":     {inGroup(record + bytes(1, bytes(2, "v")+pairsOf(3, l)) + record), []api.Group{{Version: "v", Attrs: l, Items: []api.Item{point, point}}}},
		"a metric without any":      {inScope(""), make([]api.Group, 1)},
		"a metric without points":   {inScope(bytes(1, "m") + bytes(3, "u")), make([]api.Group, 1)},
		"a metric of empty points":  {inScope(bytes(1, "m") + bytes(5, "")), make([]api.Group, 1)},
		"points without a point":    {inScope(bytes(7, varint(2, 99)+varint(3, 1))), make([]api.Group, 1)},
		"a metric of two points":    {inScope(bytes(5, bytes(1, "")+bytes(1, eight(2, 1)))), []api.Group{items(gauge(""), api.Item{Kind: api.MetricGauge, Start: 1})}},
		"a name behind its points":  {inScope(bytes(5, bytes(1, "")) + bytes(3, "u") + bytes(1, "m")), []api.Group{items(api.Item{Name: "m", Unit: "u", Kind: api.MetricGauge})}},
		"metrics with others empty": {inGroup(bytes(2, "") + record + bytes(2, bytes(1, "n")) + record), []api.Group{items(point, point)}},
	} {
		checkRead(t, name, x.request, data(x.want...))
	}
}

// TestP61LastPoints has points of two kinds in one metric: the last ones tell, whatever is in the others.
func TestP61LastPoints(t *testing.T) {
	for _, x := range bare() {
		field := places()[x.Kind]
		record := bytes(field, bytes(1, ""))
		checkRead(t, "points of kind "+strconv.Itoa(int(x.Kind)), inScope(bytes(1, "m")+record), points(x))
		for kind, other := range places() {
			name := "points of kind " + strconv.Itoa(int(kind)) + " ahead of kind " + strconv.Itoa(int(x.Kind))
			checkRead(t, name, inScope(bytes(1, "m")+bytes(other, "\x0f")+record), points(x))
			checkRead(t, name, inScope(bytes(1, "m")+bytes(other, bytes(1, "")+bytes(1, ""))+record), points(x))
			checkRead(t, name+", which are empty", inScope(bytes(1, "m")+bytes(other, bytes(1, ""))+bytes(field, "")), data(api.Group{}))
			for _, more := range []string{varint(other, 1), eight(other, 1), four(other, 1)} {
				checkRead(t, "another wire behind it", inScope(bytes(1, "m")+record+more), points(x))
			}
		}
		for _, n := range []int{2, 4, 6, 8, 12, 13, 100} {
			checkRead(t, "a field "+strconv.Itoa(n)+" behind it", inScope(bytes(1, "m")+record+bytes(n, bytes(1, ""))), points(x))
		}
	}
	checkRead(t, "three in turn", inScope(bytes(11, bytes(1, ""))+bytes(9, bytes(1, ""))+bytes(5, bytes(1, ""))), points(gauge("")))
}

func TestP61Temp(t *testing.T) {
	for _, x := range bare() {
		field := places()[x.Kind]
		has := x.Kind >= api.MetricSum && x.Kind <= api.MetricExp
		for _, n := range []uint64{0, 1, 2, 3, 255, 256, 257, 258, 1 << 32, 1<<32 + 1, 1 << 63, math.MaxUint64} {
			name := "Temp " + strconv.FormatUint(n, 10) + " of kind " + strconv.Itoa(int(x.Kind))
			s := inPoints(field, "", varint(2, n))
			switch {
			case !has:
				checkRead(t, name, s, points(x))
			case n > 2:
				checkRefused(t, name, s, api.ErrRange)
			default:
				y := x
				y.Temp = uint8(n)
				checkRead(t, name, s, points(y))
			}
		}
		again := x
		if has {
			again.Temp = 1
		}
		checkRead(t, "Temp that comes again", inPoints(field, "", varint(2, 99), varint(2, 1)), points(again))
		for _, n := range []uint64{0, 1, 2, 256, 1 << 32, 1 << 63, math.MaxUint64} {
			y := x
			y.Mono = x.Kind == api.MetricSum && n != 0
			name := "Mono " + strconv.FormatUint(n, 10) + " of kind " + strconv.Itoa(int(x.Kind))
			checkRead(t, name, inPoints(field, "", varint(3, n)), points(y))
			checkRead(t, name+", the last of two", inPoints(field, "", varint(3, 1), varint(3, n)), points(y))
		}
	}
}

func TestP61Numbers(t *testing.T) {
	for name, x := range map[string]struct {
		point string
		want  api.Point
	}{
		"none":                       {"", api.Point{}},
		"a float":                    {eight(4, bits(1.5)), api.Point{Kind: api.PointFloat, F: 1.5}},
		"an int":                     {eight(6, math.MaxUint64), api.Point{Kind: api.PointInt, N: -1}},
		"the least int":              {eight(6, 1<<63), api.Point{Kind: api.PointInt, N: math.MinInt64}},
		"a float of 0":               {eight(4, 0), api.Point{Kind: api.PointFloat}},
		"a float, then an int":       {eight(4, 1) + eight(6, 2), api.Point{Kind: api.PointInt, N: 2}},
		"an int, then a float":       {eight(6, 2) + eight(4, bits(1)), api.Point{Kind: api.PointFloat, F: 1}},
		"an int, then a float of 0":  {eight(6, 2) + eight(4, 0), api.Point{Kind: api.PointFloat}},
		"two floats and two ints":    {eight(4, 1) + eight(6, 2) + eight(4, 3) + eight(6, 4), api.Point{Kind: api.PointInt, N: 4}},
		"two floats":                 {eight(4, 1) + eight(4, bits(2)), api.Point{Kind: api.PointFloat, F: 2}},
		"others than eights":         {fields(4, 1) + fields(6, 1), api.Point{}},
		"others behind a float":      {eight(4, bits(2)) + fields(6, 1) + fields(5, -1), api.Point{Kind: api.PointFloat, F: 2}},
		"a float, then other fields": {eight(4, bits(2)) + eight(5, 7), api.Point{Kind: api.PointFloat, F: 2}},
	} {
		for _, kind := range []int32{api.MetricGauge, api.MetricSum} {
			checkRead(t, name, inPoints(places()[kind], x.point), points(of(kind, x.want)))
		}
	}
}

func TestP61Histograms(t *testing.T) {
	e, f := bareEight, func(x float64) string { return bareEight(bits(x)) }
	for name, x := range map[string]struct {
		point string
		want  api.Point
	}{
		"nothing":                     {"", api.Point{}},
		"Count":                       {eight(4, 9), api.Point{Count: 9}},
		"Sum 0":                       {eight(5, 0), api.Point{HasSum: true}},
		"Sum":                         {eight(5, 1) + eight(5, bits(minus)), api.Point{HasSum: true, Sum: minus}},
		"no Sum":                      {fields(5, 1), api.Point{}},
		"Counts as bytes":             {eight(4, 3) + bytes(6, e(1)+e(2)) + bytes(7, f(1)), api.Point{Count: 3, Counts: wholes(1, 2), Bounds: floats(1)}},
		"Counts one by one":           {eight(4, 3) + eight(6, 1) + eight(6, 2) + eight(7, bits(1)), api.Point{Count: 3, Counts: wholes(1, 2), Bounds: floats(1)}},
		"both, bytes behind":          {eight(4, 6) + eight(6, 1) + eight(7, bits(-1)) + bytes(6, e(2)+e(3)) + bytes(7, f(1)), api.Point{Count: 6, Counts: wholes(1, 2, 3), Bounds: floats(-1, 1)}},
		"both, bytes ahead":           {eight(4, 6) + bytes(7, f(-1)) + bytes(6, e(2)+e(3)) + eight(6, 1) + eight(7, bits(1)), api.Point{Count: 6, Counts: wholes(2, 3, 1), Bounds: floats(-1, 1)}},
		"bytes, one, bytes":           {eight(4, 6) + bytes(6, e(1)) + eight(6, 2) + bytes(6, "") + bytes(6, e(3)) + bytes(7, f(1)) + eight(7, bits(2)), api.Point{Count: 6, Counts: wholes(1, 2, 3), Bounds: floats(1, 2)}},
		"empty bytes":                 {bytes(6, "") + bytes(7, ""), api.Point{}},
		"one count":                   {eight(6, 0), api.Point{Counts: wholes(0)}},
		"great counts":                {eight(4, math.MaxUint64) + bytes(6, e(1<<63)+e(1<<63-1)) + eight(7, bits(minus)), api.Point{Count: math.MaxUint64, Counts: wholes(1<<63, 1<<63-1), Bounds: floats(minus)}},
		"numbers of other wires":      {varint(6, 1) + four(6, 1) + varint(7, 1) + four(7, 1), api.Point{}},
		"bounds without an end":       {bytes(6, e(0)+e(0)+e(0)) + bytes(7, f(math.Inf(-1))+f(math.Inf(1))), api.Point{Counts: wholes(0, 0, 0), Bounds: floats(math.Inf(-1), math.Inf(1))}},
		"fields of other kinds":       {fields(8, -1) + fields(10, -1), api.Point{}},
		"Count, the last one, of 0":   {eight(4, 9) + eight(4, 0), api.Point{}},
		"Counts around other fields":  {eight(6, 0) + eight(4, 1) + bytes(9, bytes(1, "a")) + eight(6, 1) + eight(7, 0), api.Point{Count: 1, Counts: wholes(0, 1), Bounds: floats(0)}},
		"as many as there may be":     {bytes(6, strings.Repeat(e(0), api.MaxParts)) + bytes(7, rising(api.MaxParts-1)), api.Point{Counts: make([]uint64, api.MaxParts), Bounds: risingFloats(api.MaxParts - 1)}},
		"as many as may be, each one": {strings.Repeat(eight(6, 0), api.MaxParts) + bytes(7, rising(api.MaxParts-1)), api.Point{Counts: make([]uint64, api.MaxParts), Bounds: risingFloats(api.MaxParts - 1)}},
	} {
		x.want.Kind = api.PointHist
		want := of(api.MetricHist, x.want)
		if name == "Counts around other fields" {
			want.Attrs = pairs(pair("a", api.Value{}))
		}
		checkRead(t, name, inPoints(9, x.point), points(want))
	}
	for name, x := range map[string]struct {
		point string
		want  api.Errno
	}{
		"seven bytes":               {bytes(6, e(1)[:7]), api.ErrWire},
		"one byte":                  {bytes(6, "x"), api.ErrWire},
		"nine bytes":                {eight(4, 1) + bytes(6, e(1)+"x"), api.ErrWire},
		"seven bytes of Bounds":     {bytes(6, e(0)+e(0)) + bytes(7, f(1)[:7]), api.ErrWire},
		"seven of two fields":       {bytes(6, e(0)[:4]) + bytes(6, e(0)[4:]), api.ErrWire},
		"too many counts":           {bytes(6, strings.Repeat(e(0), api.MaxParts+1)), api.ErrMany},
		"too many of two":           {bytes(6, strings.Repeat(e(0), api.MaxParts)) + eight(6, 0), api.ErrMany},
		"too many bounds":           {bytes(7, rising(api.MaxParts+1)), api.ErrMany},
		"Counts that are not Count": {eight(4, 2) + eight(6, 1), api.ErrType},
		"a bound that is NaN":       {bytes(6, e(0)+e(0)) + eight(7, bits(math.NaN())), api.ErrType},
		"bounds that do not rise":   {bytes(6, e(0)+e(0)+e(0)) + bytes(7, f(1)+f(1)), api.ErrType},
		"bounds alone":              {eight(7, 0), api.ErrType},
	} {
		checkRefused(t, name, inPoints(9, x.point), x.want)
	}
}

// rising is so many eights of floats that rise.
func rising(n int) string {
	s := ""
	for _, f := range risingFloats(n) {
		s += bareEight(bits(f))
	}
	return s
}

func risingFloats(n int) []float64 {
	l := make([]float64, n)
	for i := range l {
		l[i] = float64(i)
	}
	return l
}

func TestP61Exponential(t *testing.T) {
	for name, x := range map[string]struct {
		point string
		want  api.Point
	}{
		"nothing":                    {"", api.Point{}},
		"Count, Zero":                {eight(7, 3) + eight(4, 3), api.Point{Count: 3, Zero: 3}},
		"Sum":                        {eight(5, bits(2)), api.Point{HasSum: true, Sum: 2}},
		"Sum 0":                      {eight(5, 0), api.Point{HasSum: true}},
		"no Sum":                     {fields(5, 1), api.Point{}},
		"Scale":                      {varint(6, zigzag(-10)), api.Point{Scale: -10}},
		"the greatest Scale":         {varint(6, 99) + varint(6, zigzag(20)), api.Point{Scale: 20}},
		"Scale and Zero come again":  {varint(6, math.MaxUint64) + varint(6, 0) + eight(7, 9) + eight(7, 0), api.Point{}},
		"other wires":                {fields(6, 0) + fields(7, 1) + varint(8, 1) + eight(9, 1), api.Point{}},
		"offsets":                    {bytes(8, varint(1, 1)) + bytes(9, varint(1, 2)), api.Point{Offset: -1, NegOffset: 1}},
		"the greatest offsets":       {bytes(8, varint(1, 1<<32-1)) + bytes(9, varint(1, 1<<32-2)), api.Point{Offset: math.MinInt32, NegOffset: math.MaxInt32}},
		"an offset that comes again": {bytes(8, varint(1, math.MaxUint64)+varint(1, 4)), api.Point{Offset: 2}},
		"Counts as bytes":            {eight(4, 301) + bytes(8, bytes(2, num(1)+num(300))), api.Point{Count: 301, Counts: wholes(1, 300)}},
		"Counts one by one":          {eight(4, 301) + bytes(8, varint(2, 1)+varint(2, 300)), api.Point{Count: 301, Counts: wholes(1, 300)}},
		"NegCounts as bytes":         {eight(4, 301) + bytes(9, bytes(2, num(1)+num(300))), api.Point{Count: 301, NegCounts: wholes(1, 300)}},
		"NegCounts, both":            {eight(4, 6) + bytes(9, varint(2, 1)+bytes(2, num(2))+varint(2, 3)), api.Point{Count: 6, NegCounts: wholes(1, 2, 3)}},
		"Counts, both":               {eight(4, 6) + bytes(8, bytes(2, num(1)+num(2))+varint(1, 2)+varint(2, 3)+bytes(2, "")), api.Point{Count: 6, Offset: 1, Counts: wholes(1, 2, 3)}},
		"longer varints":             {eight(4, 1) + bytes(8, bytes(2, "\x81\x80\x00\x80\x00")), api.Point{Count: 1, Counts: wholes(1, 0)}},
		"a great count":              {eight(4, math.MaxUint64) + bytes(8, bytes(2, num(math.MaxUint64))), api.Point{Count: math.MaxUint64, Counts: wholes(math.MaxUint64)}},
		"counts of other wires":      {bytes(8, eight(2, 1)+four(2, 1)+eight(1, 1)), api.Point{}},
		"positive that comes again":  {bytes(8, "\x0f") + bytes(8, varint(1, 2)+varint(2, 0)) + bytes(9, "\xff") + bytes(9, ""), api.Point{Offset: 1, Counts: wholes(0)}},
		"an empty one again":         {bytes(8, varint(1, 2)+varint(2, 1)) + bytes(8, ""), api.Point{}},
		"all":                        {bytes(9, varint(2, 4)) + bytes(8, varint(2, 2)) + eight(7, 1) + eight(4, 7), api.Point{Count: 7, Zero: 1, Counts: wholes(2), NegCounts: wholes(4)}},
		"as many as there may be":    {bytes(8, bytes(2, strings.Repeat("\x00", api.MaxParts))), api.Point{Counts: make([]uint64, api.MaxParts)}},
	} {
		x.want.Kind = api.PointExp
		checkRead(t, name, inPoints(10, x.point), points(of(api.MetricExp, x.want)))
	}
	for name, x := range map[string]struct {
		point string
		want  api.Errno
	}{
		"Scale that is no int32":     {varint(6, 1<<32), api.ErrRange},
		"Scale below all int32":      {varint(6, 1<<32+1), api.ErrRange},
		"the greatest Scale":         {varint(6, math.MaxUint64), api.ErrRange},
		"Scale 21":                   {varint(6, zigzag(21)), api.ErrType},
		"Scale -11":                  {varint(6, zigzag(-11)), api.ErrType},
		"Offset that is no int32":    {bytes(8, varint(1, 1<<32)), api.ErrRange},
		"NegOffset that is no int32": {bytes(9, varint(1, 1<<32+1)), api.ErrRange},
		"the greatest offset":        {bytes(8, varint(1, math.MaxUint64)), api.ErrRange},
		"no varint":                  {bytes(8, bytes(2, "\x80")), api.ErrVarint},
		"no varint behind one":       {bytes(9, bytes(2, "\x01\xff")), api.ErrVarint},
		"a varint of eleven bytes":   {bytes(8, bytes(2, strings.Repeat("\x80", 10)+"\x01")), api.ErrVarint},
		"a varint in two fields":     {bytes(8, bytes(2, "\x80")+bytes(2, "\x01")), api.ErrVarint},
		"positive that is none":      {bytes(8, "\x0f"), api.ErrWire},
		"negative that is none":      {bytes(9, "\x08"), api.ErrVarint},
		"Counts that are not Count":  {eight(4, 2) + bytes(8, varint(2, 1)), api.ErrType},
		"too many":                   {bytes(8, bytes(2, strings.Repeat("\x00", api.MaxParts))+varint(2, 0)), api.ErrMany},
		"too many negative ones":     {bytes(9, bytes(2, strings.Repeat("\x00", api.MaxParts+1))), api.ErrMany},
	} {
		checkRefused(t, name, inPoints(10, x.point), x.want)
	}
}

func TestP61Summaries(t *testing.T) {
	quant := func(q, v float64) string { return bytes(6, eight(1, bits(q))+eight(2, bits(v))) }
	for name, x := range map[string]struct {
		point string
		want  api.Point
	}{
		"nothing":               {"", api.Point{}},
		"Count, Sum":            {eight(5, bits(minus)) + eight(4, 3), api.Point{Count: 3, Sum: minus}},
		"Sum that comes again":  {eight(5, 1) + eight(5, bits(2)) + fields(5, 1), api.Point{Sum: 2}},
		"an empty quantile":     {bytes(6, ""), api.Point{Quants: []api.Quant{{}}}},
		"quantiles":             {quant(0, 1) + eight(4, 1) + quant(0.5, minus) + quant(1, 3), api.Point{Count: 1, Quants: []api.Quant{{Q: 0, V: 1}, {Q: 0.5, V: minus}, {Q: 1, V: 3}}}},
		"a quantile's fields":   {bytes(6, eight(2, 9)+eight(1, 9)+fields(1, 1)+fields(2, 1)+fields(3, -1)+eight(2, bits(4))+eight(1, bits(0.5))), api.Point{Quants: []api.Quant{{Q: 0.5, V: 4}}}},
		"others than quantiles": {fields(6, 2), api.Point{}},
	} {
		x.want.Kind = api.PointSummary
		checkRead(t, name, inPoints(11, x.point), points(of(api.MetricSummary, x.want)))
	}
	checkRefused(t, "a quantile that is none", inPoints(11, bytes(6, "\x0f")), api.ErrWire)
	checkRefused(t, "the second one is none", inPoints(11, bytes(6, "")+bytes(6, "\x08")), api.ErrVarint)
	checkRefused(t, "quantiles that do not rise", inPoints(11, quant(1, 1)+quant(1, 1)), api.ErrType)
	checkRefused(t, "a quantile above 1", inPoints(11, quant(1.5, 1)), api.ErrType)
	checkRefused(t, "too many quantiles", inPoints(11, strings.Repeat(bytes(6, ""), api.MaxParts+1)), api.ErrMany)
}

// known is which fields the messages have, by the document's table: each number's wires.
func known() map[string]map[int][]int {
	return map[string]map[int][]int{
		"request":     {1: {2}},
		"group":       {1: {2}, 2: {2}},
		"resource":    {1: {2}},
		"scoped":      {1: {2}, 2: {2}},
		"scope":       {1: {2}, 2: {2}, 3: {2}},
		"metric":      {1: {2}, 3: {2}, 5: {2}, 7: {2}, 9: {2}, 10: {2}, 11: {2}},
		"points of 1": {1: {2}},
		"points of 2": {1: {2}, 2: {0}, 3: {0}},
		"points of 3": {1: {2}, 2: {0}},
		"points of 4": {1: {2}, 2: {0}},
		"points of 5": {1: {2}},
		"number":      {2: {1}, 3: {1}, 4: {1}, 6: {1}, 7: {2}},
		"hist":        {2: {1}, 3: {1}, 4: {1}, 5: {1}, 6: {1, 2}, 7: {1, 2}, 9: {2}},
		"exp":         {1: {2}, 2: {1}, 3: {1}, 4: {1}, 5: {1}, 6: {0}, 7: {1}, 8: {2}, 9: {2}},
		"buckets":     {1: {0}, 2: {0, 2}},
		"summary":     {2: {1}, 3: {1}, 4: {1}, 5: {1}, 6: {2}, 7: {2}},
		"quantile":    {1: {1}, 2: {1}},
	}
}

// fields is a field of that number of each wire, but for some; bytes are no message, no UTF-8.
func fields(number int, but ...int) string {
	s := ""
	for _, wire := range []int{0, 1, 2, 5} {
		if !slices.Contains(but, wire) {
			s += map[int]string{0: varint(number, math.MaxUint64), 1: eight(number, math.MaxUint64), 2: bytes(number, "\xff"), 5: four(number, math.MaxUint32)}[wire]
		}
	}
	return s
}

func TestP61UnknownFields(t *testing.T) {
	numbers := []int{13, 14, 15, 99, 1 << 20, api.MaxNum}
	for i := range 12 {
		numbers = append(numbers, i+1)
	}
	d := full()
	all := map[string]string{}
	for name, fieldsOf := range known() {
		for _, n := range numbers {
			more := fields(n, fieldsOf[n]...)
			all[name] += more
			one := map[string]string{name: more}
			checkRead(t, "a field "+strconv.Itoa(n)+" ahead of a "+name, layout{ahead: one}.request(d), d)
			checkRead(t, "a field "+strconv.Itoa(n)+" behind a "+name, layout{behind: one}.request(d), d)
		}
	}
	small := data(d.Groups[0])
	checkRead(t, "fields about all", layout{all, all}.request(small), small)
}

// TestP61LastFields has each field of one thing there twice: the last one counts, whatever is in the others.
func TestP61LastFields(t *testing.T) {
	times := eight(2, 99) + eight(3, 99)
	ahead := map[string]string{
		"group":       bytes(1, "\x0f"),
		"scoped":      bytes(1, "\xff"),
		"scope":       bytes(1, "\xff") + bytes(2, "\xff"),
		"metric":      bytes(1, "\xff") + bytes(3, "\xff") + bytes(11, "\x0f"),
		"points of 2": varint(2, 99) + varint(3, 0),
		"points of 3": varint(2, 99),
		"number":      times + eight(4, 99) + eight(6, 99),
		"hist":        times + eight(4, 99) + eight(5, 99),
		"exp":         times + eight(4, 99) + eight(5, 99) + varint(6, math.MaxUint64) + eight(7, 99) + bytes(8, "\x0f") + bytes(9, "\x0f"),
		"buckets":     varint(1, math.MaxUint64),
		"summary":     times + eight(4, 99) + eight(5, 99),
		"quantile":    eight(1, 99) + eight(2, 99),
	}
	d := full()
	for name, more := range ahead {
		checkRead(t, "two fields of a "+name, layout{ahead: map[string]string{name: more}}.request(d), d)
	}
	checkRead(t, "two fields of all", layout{ahead: ahead}.request(d), d)
	late := map[string]string{"number": eight(2, 0) + eight(3, 0), "hist": eight(2, 0) + eight(3, 0), "exp": eight(2, 0) + eight(3, 0), "summary": eight(2, 0) + eight(3, 0), "metric": bytes(1, "") + bytes(3, "")}
	want := full()
	for i := range want.Groups {
		for j := range want.Groups[i].Items {
			x := &want.Groups[i].Items[j]
			x.Start, x.Time, x.Name, x.Unit = 0, 0, "", ""
		}
	}
	checkRead(t, "noughts behind all", layout{behind: late}.request(d), want)
}

func TestP61KeysThatComeAgain(t *testing.T) {
	again := pairs(pair("a", whole(1)), pair("b", text("x")), pair("", whole(2)), pair("a", part(minus)), pair("c", api.Value{}), pair("", api.Value{}), pair("a", text("y")))
	want := pairs(pair("a", text("y")), pair("b", text("x")), pair("", api.Value{}), pair("c", api.Value{}))
	for _, x := range bare() {
		y := x
		x.Attrs, y.Attrs = again, want
		checkRead(t, "keys that come again", request(data(api.Group{Resource: again, Attrs: again, Items: []api.Item{x}})), data(api.Group{Resource: want, Attrs: want, Items: []api.Item{y}}))
		var l []api.Pair
		for i := range api.MaxParts {
			l = append(l, pair("k"+strconv.Itoa(i), whole(int64(i))))
		}
		x.Attrs = l
		checkRead(t, "MaxParts pairs", request(points(x)), points(x))
		x.Attrs = append(l, pair("", whole(1)))
		checkRefused(t, "MaxParts + 1 pairs", request(points(x)), api.ErrMany)
	}
}

// step is a part of a request, in the order in which they are read: its name, what makes it bad, and the error.
type step struct {
	name, bad string
	want      api.Errno
}

// messageSteps is a part that is bad as a message.
func messageSteps(names ...string) []step {
	var l []step
	for i, name := range names {
		l = append(l, []step{{name, "\x08", api.ErrVarint}, {name, "\x0f", api.ErrWire}}[i%2])
	}
	return l
}

// pointSteps is what is read of a point of that kind.
func pointSteps(kind int32, name string) []step {
	l := messageSteps(name, name+" pair 1", name+" pair 2")
	switch kind {
	case api.MetricHist:
		return append(l, step{name + " Counts", "x", api.ErrWire}, step{name + " Bounds", "x", api.ErrWire})
	case api.MetricExp:
		l = append(l, step{name + " Scale", varint(6, 1<<32), api.ErrRange})
		for _, side := range []string{name + " positive", name + " negative"} {
			l = append(l, step{side, "\x0f", api.ErrWire}, step{side + " offset", varint(1, math.MaxUint64), api.ErrRange}, step{side + " counts", "\xff", api.ErrVarint})
		}
	case api.MetricSummary:
		return append(l, messageSteps(name+" quantile 1", name+" quantile 2")...)
	}
	return l
}

func steps(kind int32) []step {
	l := messageSteps("request")
	for _, g := range []string{"a", "b"} {
		l = append(l, messageSteps(g, g+" resource", g+" resource pair 1", g+" resource pair 2")...)
		l = append(l, messageSteps(g+" scoped", g+" scope", g+" scope pair 1", g+" scope pair 2")...)
		for _, m := range []string{g + " metric 1", g + " metric 2"} {
			l = append(l, messageSteps(m, m+" points")...)
			l = append(l, pointSteps(kind, m+" point 1")...)
			l = append(l, pointSteps(kind, m+" point 2")...)
		}
	}
	return l
}

// stepped is a request with those parts; in each stands what is handed in for its name. What is read later stands ahead in the bytes, where it may.
func stepped(kind int32, bad map[string]string) string {
	groups := ""
	for _, g := range []string{"a", "b"} {
		metrics := ""
		for _, m := range []string{g + " metric 1", g + " metric 2"} {
			l := bytes(1, steppedPoint(kind, m+" point 1", bad)) + bytes(1, steppedPoint(kind, m+" point 2", bad))
			metrics += bytes(2, bytes(places()[kind], l+bad[m+" points"])+bytes(1, "\xff")+bad[m])
		}
		scope := twoPairs(3, g+" scope", bad) + bad[g+" scope"]
		resource := twoPairs(1, g+" resource", bad) + bad[g+" resource"]
		groups += bytes(1, bytes(2, metrics+bytes(1, scope)+bad[g+" scoped"])+bytes(1, resource)+bad[g])
	}
	return groups + bad["request"]
}

func twoPairs(number int, name string, bad map[string]string) string {
	return bytes(number, bytes(1, "k")+bad[name+" pair 1"]) + bytes(number, bytes(1, "l")+bad[name+" pair 2"])
}

func steppedPoint(kind int32, name string, bad map[string]string) string {
	side := func(name string) string {
		return bytes(2, "\x01"+bad[name+" counts"]) + bad[name+" offset"] + bad[name]
	}
	switch kind {
	case api.MetricHist:
		return bytes(7, bad[name+" Bounds"]) + bytes(6, bad[name+" Counts"]) + twoPairs(9, name, bad) + bad[name]
	case api.MetricExp:
		return bytes(9, side(name+" negative")) + bytes(8, side(name+" positive")) + bad[name+" Scale"] + twoPairs(1, name, bad) + bad[name]
	case api.MetricSummary:
		return bytes(6, bad[name+" quantile 1"]) + bytes(6, bad[name+" quantile 2"]) + twoPairs(7, name, bad) + bad[name]
	}
	return twoPairs(7, name, bad) + bad[name]
}

// TestP61FirstError has two things wrong: the error is that of the one that is read first. What is read has names, too, that are no UTF-8.
func TestP61FirstError(t *testing.T) {
	for kind := range places() {
		checkRefused(t, "what is not right, when all is read", stepped(kind, nil), api.ErrUtf)
		l := steps(kind)
		for i, x := range l {
			checkRefused(t, "a bad "+x.name, stepped(kind, map[string]string{x.name: x.bad}), x.want)
			all := map[string]string{x.name: x.bad}
			for _, later := range l[i+1:] {
				if later.want != x.want {
					all[later.name] = later.bad
					checkRefused(t, "a bad "+x.name+" and "+later.name, stepped(kind, map[string]string{x.name: x.bad, later.name: later.bad}), x.want)
				}
			}
			checkRefused(t, "a bad "+x.name+", and what is read behind it", stepped(kind, all), x.want)
		}
	}
}

// TestP61ErrorsOfParts has errors that wire.Read and value.ReadPair tell, each ahead of those of what was read.
func TestP61ErrorsOfParts(t *testing.T) {
	long := strings.Repeat("x", api.MaxText+1)
	deep := bytes(1, "x")
	for range api.MaxDepth + 1 {
		deep = bytes(5, bytes(1, deep))
	}
	early := inGroup(bytes(1, bytes(2, "\xff"))) // a group that is not right, once it is read
	for v, want := range map[string]api.Errno{
		bytes(1, "\xff"): api.ErrUtf,
		bytes(1, long):   api.ErrLong,
		bytes(5, strings.Repeat(bytes(1, ""), api.MaxParts+1)): api.ErrMany,
		"\x08":      api.ErrVarint,
		"\x0a\x02x": api.ErrWire,
		deep:        api.ErrDepth,
	} {
		p := bytes(1, "k") + bytes(2, v)
		checkRefused(t, "a pair of a resource", early+bytes(1, bytes(1, bytes(1, p))), want)
		checkRefused(t, "a pair of a scope", early+inGroup(bytes(1, bytes(3, p))), want)
		for kind, field := range map[int32]int{api.MetricGauge: 7, api.MetricSum: 7, api.MetricHist: 9, api.MetricExp: 1, api.MetricSummary: 7} {
			checkRefused(t, "a pair of a point", early+inPoints(places()[kind], bytes(field, p)), want)
			checkRefused(t, "a pair that comes again", early+inPoints(places()[kind], bytes(field, p)+bytes(field, bytes(1, "k"))), want)
		}
	}
}

func TestP61Limits(t *testing.T) {
	checkRead(t, "MaxBytes", bytes(9, strings.Repeat("x", api.MaxBytes-4)), data())
	checkRefused(t, "MaxBytes + 1", bytes(9, strings.Repeat("x", api.MaxBytes-3)), api.ErrLong)
	checkRefused(t, "MaxBytes + 1 that are no message", strings.Repeat("\xff", api.MaxBytes+1), api.ErrLong)
	most := strings.Repeat("\x98\x06\x01", api.MaxFields) // a varint 99
	for name, inner := range map[string]func(string) string{
		"request":  func(s string) string { return s },
		"group":    func(s string) string { return bytes(1, s) },
		"scoped":   inGroup,
		"metric":   inScope,
		"points":   func(s string) string { return inScope(bytes(5, s)) },
		"point":    func(s string) string { return inPoints(9, s) },
		"buckets":  func(s string) string { return inPoints(10, bytes(8, s)) },
		"quantile": func(s string) string { return inPoints(11, bytes(6, s)) },
	} {
		_, why := metric.Read(inner(most))
		checkErr(t, "MaxFields of a "+name, why, api.OK)
		checkRefused(t, "MaxFields + 1 of a "+name, inner(most+"\x98\x06\x01"), api.ErrMany)
	}
	checkRefused(t, "MaxItems + 1", inScope(bytes(5, strings.Repeat(bytes(1, ""), api.MaxItems+1))), api.ErrMany)
	checkRefused(t, "MaxItems + 1 of two", inGroup(bytes(2, bytes(5, strings.Repeat(bytes(1, ""), api.MaxItems)))+bytes(2, bytes(5, bytes(1, "")))), api.ErrMany)
	checkRefused(t, "MaxGroups + 1", strings.Repeat(inGroup(""), api.MaxGroups+1), api.ErrMany)
	checkRefused(t, "MaxGroups + 1 of one", bytes(1, strings.Repeat(bytes(2, ""), api.MaxGroups+1)), api.ErrMany)
	for _, field := range []int{1, 3} {
		text := strings.Repeat("x", api.MaxText)
		d, why := metric.Read(inScope(bytes(field, text) + bytes(5, bytes(1, ""))))
		if checkErr(t, "MaxText", why, api.OK); len(d.Groups) != 1 {
			t.Error("MaxText:", d)
		}
		checkRefused(t, "MaxText + 1", inScope(bytes(field, text+"x")+bytes(5, bytes(1, ""))), api.ErrLong)
		checkRefused(t, "what is no UTF-8", inScope(bytes(field, "\xff")+bytes(5, bytes(1, ""))), api.ErrUtf)
		checkRead(t, "a metric without a point, that is not right", inScope(bytes(field, text+"\xff")+bytes(5, "")), data(api.Group{}))
	}
}

func TestP63ThereAndBack(t *testing.T) {
	r := rand.New(rand.NewPCG(6, 3))
	l := []api.Data{data(), data(api.Group{}), full(), points(bare()...)}
	for range 3000 {
		l = append(l, some(r))
	}
	for _, d := range l {
		written, why := metric.Write(d)
		checkErr(t, "Write", why, api.OK)
		checkRead(t, "what is written", written, d)
	}
}

func TestP65InParts(t *testing.T) {
	r := rand.New(rand.NewPCG(6, 5))
	for range 1000 {
		a, b := some(r), some(r)
		first, _ := metric.Write(a)
		second, _ := metric.Write(b)
		checkRead(t, "two behind one another", first+second, data(slices.Concat(a.Groups, b.Groups)...))
	}
	written, _ := metric.Write(full())
	checkRead(t, "one twice", written+written, data(slices.Concat(full().Groups, full().Groups)...))
}

func TestP62NewMemory(t *testing.T) {
	d := full()
	room := func() []api.Item { return d.Groups[0].Items[:cap(d.Groups[0].Items)] }
	beforeRoom := slices.Clone(room())
	written, _ := metric.Write(d)
	if !same(d, full()) || !same(room(), beforeRoom) {
		t.Error("Write: what was handed in is changed")
	}
	spoil(d)
	if again, _ := metric.Write(full()); again != written {
		t.Error("Write: what was handed in is kept")
	}
	g := full().Groups[0]
	two := bytes(1, bytes(1, pairsOf(1, g.Resource))+bytes(2, "")+bytes(2, bytes(1, pairsOf(3, g.Attrs)))+bytes(2, ""))
	for name, request := range map[string]string{"what is written": written, "groups of one resource": two} {
		first, _ := metric.Read(request)
		second, _ := metric.Read(request)
		if len(first.Groups) != 3 || len(first.Groups[2].Resource) == 0 {
			t.Errorf("Read of %s: %v", name, first)
		}
		checkApart(t, name, first, second)
		spoil(first)
		third, why := metric.Read(request)
		if !same(second, third) || why != api.OK {
			t.Errorf("Read of %s: an earlier answer is kept", name)
		}
	}
}

// TestP1AnyBytes has bytes that are right but for a few of them.
func TestP1AnyBytes(t *testing.T) {
	r := rand.New(rand.NewPCG(6, 11))
	for range 8000 {
		b := []byte(request(some(r)))
		for range r.IntN(4) {
			if len(b) > 0 {
				b[r.IntN(len(b))] = byte(r.Uint32())
			}
		}
		b = b[:len(b)-r.IntN(2)*r.IntN(len(b)+1)]
		d, why := metric.Read(string(b))
		if why != api.OK && !same(d, api.Data{}) {
			t.Errorf("Read of %x: %v beside error %d", b, d, why)
		}
		if why != api.OK {
			continue
		}
		written, why := metric.Write(d)
		checkErr(t, "Write of what was read", why, api.OK)
		checkRead(t, "what was read", written, d)
	}
}

// TestP1Many has requests that are long in what stands behind one another, and data that are nested deep.
func TestP1Many(t *testing.T) {
	deep := whole(1)
	for range 1<<16 - 20 {
		deep = list(deep)
	}
	x := gauge("m")
	x.Attrs = pairs(pair("a", deep))
	checkWrite(t, "what is nested deep", points(x), "", api.ErrDepth)
	part := strings.Repeat(bytes(1, ""), api.MaxParts)
	wide := bytes(1, bytes(2, bytes(5, strings.Repeat(bytes(1, bytes(5, part)), 90))))
	checkRefused(t, "many scoped of a great resource", bytes(1, bytes(1, wide)+strings.Repeat(bytes(2, ""), 4000)), api.ErrMany)
	checkRead(t, "many metrics without points", inGroup(strings.Repeat(bytes(2, ""), api.MaxFields)), data(api.Group{}))
	checkRefused(t, "many counts", inPoints(10, bytes(8, bytes(2, strings.Repeat("\x00", api.MaxBytes-100)))), api.ErrMany)
	checkRefused(t, "many counts, each alone", inPoints(9, strings.Repeat(eight(6, 0), api.MaxFields)), api.ErrMany)
}

func TestP3AndP4AlwaysTheSame(t *testing.T) {
	before := runtime.NumGoroutine()
	bad := stepped(api.MetricExp, map[string]string{"a metric 1 point 2 Scale": varint(6, 1<<32), "a metric 2": "\x0f"})
	for range 50 {
		d := full()
		d.Groups = append(make([]api.Group, 0, 100), d.Groups...)
		checkWrite(t, "one that has other room", d, request(full()), api.OK)
		checkRead(t, "full data", request(full()), full())
		checkRefused(t, "two errors", bad, api.ErrRange)
	}
	for range 1000 { // one that is joined may still be on its way out
		if runtime.NumGoroutine() <= before {
			return
		}
		runtime.Gosched()
	}
	t.Errorf("%d goroutines are left", runtime.NumGoroutine()-before)
}
