package size_test

import (
	"math"
	"math/rand/v2"
	"runtime"
	"slices"
	"strconv"
	"strings"
	"testing"

	"penstock/api"
	"penstock/pdata"
	"penstock/size"
)

func checkSize(t *testing.T, name string, d api.Data, want int) {
	t.Helper()
	if n, why := size.Size(d); n != want || why != api.OK {
		t.Errorf("Size of %s: %d, error %d, want %d", name, n, why, want)
	}
	if written := request(d); len(written) != want {
		t.Errorf("%s: written it has %d bytes, want %d", name, len(written), want)
	}
}

// checkItem tells what Item says, and Size of a group of x alone.
func checkItem(t *testing.T, name string, s api.Signal, x api.Item, want int) {
	t.Helper()
	if n, why := size.Item(x, s); n != want || why != api.OK {
		t.Errorf("Item of %s: %d, error %d, want %d", name, n, why, want)
	}
	checkSize(t, "a group of "+name, data(s, items(x)), len(request(data(s, items(x)))))
}

func TestP41Groups(t *testing.T) {
	a := strings.Repeat("a", 127)
	none := pairs(pair("", api.Value{}))
	for _, s := range signals() {
		for name, x := range map[string]struct {
			g    api.Group
			want int
		}{
			"nothing":                 {api.Group{}, 4},
			"empty lists":             {api.Group{Resource: []api.Pair{}, Attrs: []api.Pair{}, Items: []api.Item{}}, 4},
			"a resource":              {api.Group{Resource: pairs(pair("a", whole(1)))}, 4 + 2 + 9},
			"a resource of nothing":   {api.Group{Resource: none}, 4 + 2 + 2},
			"a scope":                 {api.Group{Scope: "a"}, 4 + 2 + 3},
			"a version":               {api.Group{Version: "a"}, 4 + 2 + 3},
			"attributes":              {api.Group{Attrs: pairs(pair("a", whole(1)))}, 4 + 2 + 9},
			"attributes of nothing":   {api.Group{Attrs: none}, 4 + 2 + 2},
			"all":                     {api.Group{Resource: none, Scope: "a", Version: "b", Attrs: none}, 4 + 4 + 2 + 3 + 3 + 2},
			"a scope of 127 bytes":    {api.Group{Scope: a}, 3 + 3 + 3 + 129},
			"a scope of 128 bytes":    {api.Group{Scope: a + "a"}, 3 + 3 + 3 + 131},
			"a scope of 121 bytes":    {api.Group{Scope: a[:121]}, 2 + 2 + 2 + 123},
			"a scope of 122 bytes":    {api.Group{Scope: a[:122]}, 3 + 2 + 2 + 124}, // the group has 128
			"a scope of 124 bytes":    {api.Group{Scope: a[:124]}, 3 + 3 + 2 + 126}, // scoped has 128
			"a scope of 126 bytes":    {api.Group{Scope: a[:126]}, 3 + 3 + 3 + 128}, // the scope has 128
			"two pairs of a resource": {api.Group{Resource: pairs(pair("a", whole(1)), pair("b", api.Value{}))}, 4 + 2 + 9 + 5},
		} {
			checkSize(t, name, data(s, x.g), x.want)
		}
		checkSize(t, "no groups", data(s), 0)
		checkSize(t, "three groups", data(s, api.Group{}, api.Group{Scope: "a"}, api.Group{}), 4+9+4)
	}
}

func TestP41Spans(t *testing.T) {
	base := api.Item{Trace: trace, Span: span}
	const least = 18 + 10
	for name, x := range map[string]struct {
		set  func(*api.Item)
		want int
	}{
		"nothing else":           {func(x *api.Item) {}, 0},
		"Parent":                 {func(x *api.Item) { x.Parent = span }, 10},
		"Name":                   {func(x *api.Item) { x.Name = "abc" }, 5},
		"Name of 127 bytes":      {func(x *api.Item) { x.Name = strings.Repeat("a", 127) }, 129},
		"Name of 128 bytes":      {func(x *api.Item) { x.Name = strings.Repeat("a", 128) }, 131},
		"Name of MaxText":        {func(x *api.Item) { x.Name = strings.Repeat("a", api.MaxText) }, 3 + api.MaxText},
		"Kind":                   {func(x *api.Item) { x.Kind = 5 }, 2},
		"Start":                  {func(x *api.Item) { x.Start = 1 }, 9},
		"Time":                   {func(x *api.Item) { x.Time = math.MaxUint64 }, 9},
		"an empty pair":          {func(x *api.Item) { x.Attrs = pairs(pair("", api.Value{})) }, 2},
		"a pair":                 {func(x *api.Item) { x.Attrs = pairs(pair("a", whole(1))) }, 9},
		"pairs":                  {func(x *api.Item) { x.Attrs = pairs(pair("a", whole(1)), pair("b", whole(-1))) }, 9 + 18},
		"Message":                {func(x *api.Item) { x.Message = "m" }, 5},
		"Code":                   {func(x *api.Item) { x.Code = 2 }, 4},
		"Message and Code":       {func(x *api.Item) { x.Message, x.Code = "m", 1 }, 7},
		"a Message of 125 bytes": {func(x *api.Item) { x.Message = strings.Repeat("m", 125) }, 129},
		"a Message of 126 bytes": {func(x *api.Item) { x.Message = strings.Repeat("m", 126) }, 131},
	} {
		y := base
		x.set(&y)
		checkItem(t, name+" of a span", api.SignalTrace, y, least+x.want)
	}
	checkSize(t, "two spans", data(api.SignalTrace, items(base, base)), 4+2*(2+least))
}

func TestP41Logs(t *testing.T) {
	for name, x := range map[string]struct {
		item api.Item
		want int
	}{
		"nothing":         {api.Item{}, 0},
		"Time":            {api.Item{Time: 1}, 9},
		"Kind":            {api.Item{Kind: 24}, 2},
		"Name":            {api.Item{Name: "abc"}, 5},
		"Body":            {api.Item{Body: text("a")}, 5},
		"an empty Body":   {api.Item{Body: text("")}, 4},
		"an empty pair":   {api.Item{Attrs: pairs(pair("", api.Value{}))}, 2},
		"a pair":          {api.Item{Attrs: pairs(pair("a", whole(1)))}, 9},
		"Trace":           {api.Item{Trace: trace}, 18},
		"Span":            {api.Item{Span: span}, 10},
		"Start":           {api.Item{Start: 1}, 9},
		"Start and Time":  {api.Item{Start: math.MaxUint64, Time: math.MaxUint64}, 18},
		"a great pair":    {api.Item{Attrs: pairs(pair(strings.Repeat("k", 127), text(strings.Repeat("v", 127))))}, 3 + 129 + 3 + 130 - 1},
		"nothing, but so": {api.Item{Attrs: []api.Pair{}, Body: api.Value{List: []api.Value{}}}, 0},
	} {
		checkItem(t, name+" of a log", api.SignalLog, x.item, x.want)
	}
	checkSize(t, "logs of nothing", data(api.SignalLog, items(api.Item{}, api.Item{}, api.Item{})), 4+6)
}

func TestP41Values(t *testing.T) {
	long := func(n int) string { return strings.Repeat("x", n) }
	for name, x := range map[string]struct {
		v    api.Value
		want int // of the value's message
	}{
		"text":                {text("a"), 3},
		"empty text":          {text(""), 2},
		"text of 127 bytes":   {text(long(127)), 129},
		"text of 128 bytes":   {text(long(128)), 131},
		"false":               {api.Value{Kind: api.KindBool}, 2},
		"true":                {api.Value{Kind: api.KindBool, B: true}, 2},
		"0":                   {whole(0), 2},
		"127":                 {whole(127), 2},
		"128":                 {whole(128), 3},
		"-1":                  {whole(-1), 11},
		"the greatest int":    {whole(math.MaxInt64), 10},
		"the least int":       {whole(math.MinInt64), 11},
		"float 0":             {part(0), 9},
		"-0":                  {part(minus), 9},
		"NaN":                 {part(math.NaN()), 9},
		"empty list":          {list(), 2},
		"list of nothing":     {list(api.Value{}, api.Value{}), 2 + 4},
		"list":                {list(text("a"), whole(0)), 2 + 5 + 4},
		"list of lists":       {list(list(list())), 2 + 2 + 2 + 2 + 2},
		"empty map":           {table(), 2},
		"map of nothing":      {table(pair("", api.Value{})), 2 + 2},
		"map":                 {table(pair("a", text("b")), pair("", list())), 2 + 2 + 3 + 5 + 2 + 4},
		"empty bytes":         {api.Value{Kind: api.KindBytes}, 2},
		"bytes":               {api.Value{Kind: api.KindBytes, S: "\xff\xff"}, 4},
		"bytes of MaxText":    {api.Value{Kind: api.KindBytes, S: long(api.MaxText)}, 3 + api.MaxText},
		"list of 127 bytes":   {list(text(long(123))), 2 + 2 + 125},
		"list of 129 bytes":   {list(text(long(125))), 3 + 2 + 127},
		"more than a message": {list(slices.Repeat([]api.Value{text(long(api.MaxText))}, 20)...), 4 + 20*(3+3+api.MaxText)},
	} {
		around := 2
		if x.want >= 128 {
			around++
		}
		if x.want >= 1<<14 {
			around++
		}
		checkItem(t, "a log, its body "+name, api.SignalLog, api.Item{Body: x.v}, around+x.want)
		if x.want < 100 {
			checkItem(t, "a log, a pair of "+name, api.SignalLog, api.Item{Attrs: pairs(pair("k", x.v))}, 2+3+2+x.want)
		}
	}
}

func TestP41Numbers(t *testing.T) {
	for name, x := range map[string]struct {
		item api.Item
		want int
	}{
		"nothing":       {api.Item{}, 0},
		"Start":         {api.Item{Start: 1}, 9},
		"Time":          {api.Item{Time: 1}, 9},
		"float":         {api.Item{Point: api.Point{Kind: api.PointFloat, F: 1}}, 9},
		"float 0":       {api.Item{Point: api.Point{Kind: api.PointFloat}}, 9},
		"int":           {api.Item{Point: api.Point{Kind: api.PointInt, N: -1}}, 9},
		"int 0":         {api.Item{Point: api.Point{Kind: api.PointInt}}, 9},
		"a pair":        {api.Item{Attrs: pairs(pair("a", whole(1)))}, 9},
		"an empty pair": {api.Item{Attrs: pairs(pair("", api.Value{}))}, 2},
		"all":           {api.Item{Start: 1, Time: 1, Point: api.Point{Kind: api.PointInt}, Attrs: pairs(pair("a", whole(1)))}, 36},
	} {
		for _, kind := range []int32{api.MetricGauge, api.MetricSum} {
			x.item.Kind = kind
			checkItem(t, name+" of metric "+strconv.Itoa(int(kind)), api.SignalMetric, x.item, x.want)
		}
	}
}

func TestP41Histograms(t *testing.T) {
	for name, x := range map[string]struct {
		p    api.Point
		want int
	}{
		"nothing":      {api.Point{}, 0},
		"Count":        {api.Point{Count: 1}, 9},
		"Sum":          {api.Point{HasSum: true, Sum: 1}, 9},
		"Sum 0":        {api.Point{HasSum: true}, 9},
		"one count":    {api.Point{Counts: []uint64{0}}, 10},
		"Counts":       {api.Point{Counts: []uint64{0, 0, 0}, Bounds: []float64{minus, 1}}, 26 + 18},
		"15 counts":    {api.Point{Counts: make([]uint64, 15), Bounds: rising(14)}, 122 + 114},
		"16 counts":    {api.Point{Counts: make([]uint64, 16), Bounds: rising(15)}, 131 + 122},
		"17 counts":    {api.Point{Counts: make([]uint64, 17), Bounds: rising(16)}, 139 + 131},
		"as many as":   {api.Point{Counts: make([]uint64, api.MaxParts), Bounds: rising(api.MaxParts - 1)}, 3 + 8*api.MaxParts + 3 + 8*(api.MaxParts-1)},
		"all of a few": {api.Point{Count: 3, HasSum: true, Counts: []uint64{1, 2}, Bounds: []float64{0}}, 9 + 9 + 18 + 10},
	} {
		x.p.Kind = api.PointHist
		checkItem(t, name+" of a histogram", api.SignalMetric, api.Item{Kind: api.MetricHist, Point: x.p}, x.want)
		checkItem(t, name+" of a histogram with times", api.SignalMetric, api.Item{Kind: api.MetricHist, Start: 1, Time: 2, Attrs: pairs(pair("a", whole(1))), Point: x.p}, x.want+27)
	}
}

func rising(n int) []float64 {
	l := make([]float64, n)
	for i := range l {
		l[i] = float64(i)
	}
	return l
}

func TestP41Exponential(t *testing.T) {
	for name, x := range map[string]struct {
		p    api.Point
		want int
	}{
		"nothing":                {api.Point{}, 0},
		"Count, Zero":            {api.Point{Count: 1, Zero: 1}, 18},
		"Sum 0":                  {api.Point{HasSum: true}, 9},
		"Sum":                    {api.Point{HasSum: true, Sum: -1}, 9},
		"Scale":                  {api.Point{Scale: 20}, 2},
		"Scale below 0":          {api.Point{Scale: -10}, 2},
		"Offset":                 {api.Point{Offset: -1}, 4},
		"Offset 63":              {api.Point{Offset: 63}, 4},
		"Offset 64":              {api.Point{Offset: 64}, 5},
		"Offset -64":             {api.Point{Offset: -64}, 4},
		"Offset -65":             {api.Point{Offset: -65}, 5},
		"the least Offset":       {api.Point{Offset: math.MinInt32}, 8},
		"NegOffset":              {api.Point{NegOffset: 1}, 4},
		"the greatest NegOffset": {api.Point{NegOffset: math.MaxInt32}, 8},
		"Counts of 0":            {api.Point{Counts: []uint64{0, 0}}, 6},
		"Counts":                 {api.Point{Count: 255, Counts: []uint64{127, 128}}, 9 + 2 + 2 + 3},
		"the greatest count":     {api.Point{Count: math.MaxUint64, Counts: []uint64{math.MaxUint64}}, 9 + 2 + 2 + 10},
		"NegCounts":              {api.Point{NegCounts: []uint64{0}, NegOffset: 1}, 2 + 2 + 3},
		"MaxParts":               {api.Point{Counts: make([]uint64, api.MaxParts)}, 3 + 3 + api.MaxParts},
		"all of a few":           {api.Point{Count: 3, Zero: 1, HasSum: true, Scale: 1, Offset: 1, Counts: []uint64{1}, NegOffset: 1, NegCounts: []uint64{1}}, 9 + 9 + 9 + 2 + 7 + 7},
	} {
		x.p.Kind = api.PointExp
		checkItem(t, name+" of an exponential one", api.SignalMetric, api.Item{Kind: api.MetricExp, Point: x.p}, x.want)
		checkItem(t, name+" of an exponential one with times", api.SignalMetric, api.Item{Kind: api.MetricExp, Start: 1, Time: 2, Attrs: pairs(pair("a", whole(1))), Point: x.p}, x.want+27)
	}
}

func TestP41Summaries(t *testing.T) {
	for name, x := range map[string]struct {
		p    api.Point
		want int
	}{
		"nothing":         {api.Point{}, 0},
		"Count":           {api.Point{Count: math.MaxUint64}, 9},
		"Sum":             {api.Point{Sum: 1}, 9},
		"Sum -0":          {api.Point{Sum: minus}, 9},
		"Sum NaN":         {api.Point{Sum: math.NaN()}, 9},
		"a quantile":      {api.Point{Quants: []api.Quant{{Q: 0.5, V: 1}}}, 20},
		"quantile 0 of 0": {api.Point{Quants: []api.Quant{{}}}, 2},
		"quantile 0":      {api.Point{Quants: []api.Quant{{V: 1}}}, 11},
		"quantile -0":     {api.Point{Quants: []api.Quant{{Q: minus}}}, 11},
		"a value of 0":    {api.Point{Quants: []api.Quant{{Q: 1}}}, 11},
		"a value of -0":   {api.Point{Quants: []api.Quant{{Q: 1, V: minus}}}, 20},
		"quantiles":       {api.Point{Count: 1, Sum: 1, Quants: []api.Quant{{}, {Q: 1, V: 1}}}, 18 + 2 + 20},
	} {
		x.p.Kind = api.PointSummary
		checkItem(t, name+" of a summary", api.SignalMetric, api.Item{Kind: api.MetricSummary, Point: x.p}, x.want)
		checkItem(t, name+" of a summary with times", api.SignalMetric, api.Item{Kind: api.MetricSummary, Start: 1, Time: 2, Attrs: pairs(pair("a", whole(1))), Point: x.p}, x.want+27)
	}
}

func TestP41Metrics(t *testing.T) {
	point := func(set func(*api.Item)) api.Item {
		x := api.Item{Name: "m", Kind: api.MetricSum, Point: api.Point{Kind: api.PointInt}}
		if set != nil {
			set(&x)
		}
		return x
	}
	const one, metric = 11, 2 + 3 + 2 // a point of 9 bytes; what holds the points
	a := point(nil)
	checkSize(t, "one", data(api.SignalMetric, items(a)), 4+metric+one)
	checkSize(t, "two points", data(api.SignalMetric, items(a, a)), 4+metric+2*one)
	other := point(func(x *api.Item) { x.Start, x.Time, x.Point = 1, 2, api.Point{} })
	checkSize(t, "points of other times", data(api.SignalMetric, items(a, other, a)), 4+metric+2*one+20)
	for name, x := range map[string]struct {
		item api.Item
		more int // than one that is as the first
	}{
		"Name":  {point(func(x *api.Item) { x.Name = "n" }), 0},
		"Unit":  {point(func(x *api.Item) { x.Unit = "u" }), 3},
		"Kind":  {point(func(x *api.Item) { x.Kind = api.MetricGauge }), 0},
		"Temp":  {point(func(x *api.Item) { x.Temp = 2 }), 2},
		"Mono":  {point(func(x *api.Item) { x.Mono = true }), 2},
		"empty": {point(func(x *api.Item) { x.Name = "" }), -3},
	} {
		checkSize(t, "a metric with "+name, data(api.SignalMetric, items(x.item)), 4+metric+one+x.more)
		checkSize(t, "a metric more for "+name, data(api.SignalMetric, items(a, x.item)), 4+2*(metric+one)+x.more)
		checkSize(t, "two metrics in turn for "+name, data(api.SignalMetric, items(a, x.item, a)), 4+3*(metric+one)+x.more)
		checkSize(t, "two of a metric with "+name, data(api.SignalMetric, items(a, a, x.item, x.item)), 4+2*(metric+2*one)+x.more)
	}
	checkSize(t, "two groups", data(api.SignalMetric, items(a), items(a)), 2*(4+metric+one))
	for kind, p := range map[int32]api.PointKind{api.MetricGauge: api.PointNone, api.MetricSum: api.PointNone, api.MetricHist: api.PointHist, api.MetricExp: api.PointExp, api.MetricSummary: api.PointSummary} {
		x := api.Item{Kind: kind, Point: api.Point{Kind: p}}
		checkSize(t, "empty points of metric "+strconv.Itoa(int(kind)), data(api.SignalMetric, items(x, x)), 4+2+2+4)
	}
}

func TestP41AsWritten(t *testing.T) {
	r := rand.New(rand.NewPCG(4, 1))
	for range 3000 {
		d := some(r, signals()[r.IntN(3)])
		checkSize(t, "any data", d, len(request(d)))
		for _, g := range d.Groups {
			for _, x := range g.Items {
				if n, why := size.Item(x, d.Signal); n != len(itemOf(x, d.Signal)) || why != api.OK {
					t.Errorf("Item of %v: %d, error %d, want %d", x, n, why, len(itemOf(x, d.Signal)))
				}
			}
		}
	}
}

// TestP41Great has sizes whose numbers of bytes are of three bytes and more.
func TestP41Great(t *testing.T) {
	long := strings.Repeat("x", api.MaxText)
	for _, n := range []int{3, 4, 5, 15, 16, 17, 500, 520, api.MaxItems} {
		d := data(api.SignalLog, items(slices.Repeat([]api.Item{{Name: long}}, n)...))
		checkSize(t, strconv.Itoa(n)+" long names", d, len(request(d)))
	}
	key := func(i int) string { return strconv.Itoa(i) + long[:api.MaxText-3] }
	var l []api.Pair
	for i := range api.MaxParts {
		l = append(l, pair(key(i+100), text(long)))
	}
	d := data(api.SignalTrace, api.Group{Resource: l, Attrs: l, Items: []api.Item{{Trace: trace, Span: span, Attrs: l}}})
	checkSize(t, "as many attributes as may be", d, len(request(d)))
}

// wrongData is data that are not right, and why: where several things are wrong the first one.
func wrongData() map[api.Errno]api.Data {
	long := strings.Repeat("a", api.MaxText+1)
	return map[api.Errno]api.Data{
		api.ErrType:  data(api.SignalCount, api.Group{Scope: long}),
		api.ErrMany:  data(api.SignalLog, append(make([]api.Group, api.MaxGroups), api.Group{Scope: long})...),
		api.ErrLong:  data(api.SignalLog, items(api.Item{Name: long, Unit: "\xff"})),
		api.ErrUtf:   data(api.SignalTrace, items(api.Item{Message: "\xff"})),
		api.ErrRange: data(api.SignalMetric, items(api.Item{Kind: 6})),
		api.ErrState: data(api.SignalLog, items(api.Item{Attrs: pairs(pair("", whole(1)), pair("", whole(1)))})),
	}
}

func TestP41Errors(t *testing.T) {
	for want, d := range wrongData() {
		if n, why := size.Size(d); n != 0 || why != want {
			t.Errorf("Size: %d, error %d, want error %d", n, why, want)
		}
		if want == api.ErrMany {
			continue
		}
		x := api.Item{}
		if len(d.Groups[0].Items) > 0 {
			x = d.Groups[0].Items[0]
		}
		if n, why := size.Item(x, d.Signal); n != 0 || why != want {
			t.Errorf("Item: %d, error %d, want error %d", n, why, want)
		}
	}
	for _, s := range []api.Signal{api.SignalNone, api.SignalCount, 255} {
		if n, why := size.Item(api.Item{Kind: -1}, s); n != 0 || why != api.ErrType {
			t.Errorf("Item of signal %d: %d, error %d", s, n, why)
		}
	}
	x := api.Item{Name: "m", Kind: api.MetricGauge, Point: api.Point{Kind: api.PointInt, Counts: make([]uint64, api.MaxParts+1)}}
	if n, why := size.Item(x, api.SignalMetric); n != 0 || why != api.ErrMany {
		t.Errorf("Item of too many counts: %d, error %d", n, why)
	}
	if n, why := size.Item(api.Item{Trace: trace, Span: span}, api.SignalMetric); n != 0 || why != api.ErrRange {
		t.Errorf("Item of another signal: %d, error %d", n, why)
	}
}

func checkFirst(t *testing.T, d api.Data, most, want int) {
	t.Helper()
	if n, why := size.First(d, most); n != want || why != api.OK {
		t.Errorf("First at %d: %d, error %d, want %d", most, n, why, want)
	}
}

func TestP42First(t *testing.T) {
	log := api.Item{Time: 1} // 11 bytes in its group
	d := data(api.SignalLog, api.Group{Scope: "empty"}, items(log, log), items(), items(log))
	for most, want := range map[int]int{math.MinInt: 0, -1: 0, 0: 0, 1: 0, 14: 0, 15: 1, 16: 1, 25: 1, 26: 2, 40: 2, 41: 3, 42: 3, math.MaxInt: 3} {
		checkFirst(t, d, most, want)
	}
	for _, s := range signals() {
		for _, d := range []api.Data{data(s), data(s, items(), items())} {
			for _, most := range []int{math.MinInt, -1, 0, 1, 4, 100} {
				checkFirst(t, d, most, 0)
			}
		}
	}
	same := api.Item{Name: "m", Kind: api.MetricGauge, Point: api.Point{Kind: api.PointInt}}
	points := data(api.SignalMetric, items(same, same, same))
	for most, want := range map[int]int{21: 0, 22: 1, 32: 1, 33: 2, 43: 2, 44: 3} {
		checkFirst(t, points, most, want)
	}
	for want, d := range wrongData() {
		for _, most := range []int{-1, 0, math.MaxInt} {
			if n, why := size.First(d, most); n != 0 || why != want {
				t.Errorf("First at %d: %d, error %d, want error %d", most, n, why, want)
			}
		}
	}
}

// TestP42FirstIsTheGreatest has each number of bytes at which one more goes, and one less.
func TestP42FirstIsTheGreatest(t *testing.T) {
	r := rand.New(rand.NewPCG(4, 2))
	for range 300 {
		d := some(r, signals()[r.IntN(3)])
		for n := range pdata.Items(d) + 1 {
			head, _, why := pdata.Split(d, n)
			checkErr(t, "Split", why, api.OK)
			most := len(request(head))
			checkFirst(t, d, most, n)
			checkFirst(t, d, most-1, max(n-1, 0))
		}
	}
}

func TestP42FirstOfMany(t *testing.T) {
	log := api.Item{Attrs: pairs(pair("k", text(strings.Repeat("x", api.MaxText))))}
	d := data(api.SignalLog, items(slices.Repeat([]api.Item{log}, api.MaxItems)...))
	for _, n := range []int{0, 1, 3, 4, 15, 16, 511, 512, 513, api.MaxItems - 1, api.MaxItems} {
		head, _, _ := pdata.Split(d, n)
		checkFirst(t, d, len(request(head)), n)
		checkFirst(t, d, len(request(head))-1, max(n-1, 0))
	}
}

func TestP43Together(t *testing.T) {
	r := rand.New(rand.NewPCG(4, 3))
	for range 500 {
		d := some(r, signals()[r.IntN(3)])
		sum := 0
		for _, g := range d.Groups {
			n, why := size.Size(data(d.Signal, g))
			checkErr(t, "Size of a group", why, api.OK)
			sum += n
		}
		if n, why := size.Size(d); n != sum || why != api.OK {
			t.Errorf("Size: %d, error %d, the groups' together are %d", n, why, sum)
		}
	}
}

func TestP44MoreIsLonger(t *testing.T) {
	r := rand.New(rand.NewPCG(4, 4))
	for range 500 {
		s := signals()[r.IntN(3)]
		d := some(r, s)
		last := 0
		for most := -10; most < 400; most += 1 + r.IntN(20) {
			n, why := size.First(d, most)
			checkErr(t, "First", why, api.OK)
			if n < last {
				t.Errorf("First at %d: %d, of less it is %d", most, n, last)
			}
			last = n
		}
		if len(d.Groups) == 0 {
			continue
		}
		before, _ := size.Size(d)
		g := &d.Groups[r.IntN(len(d.Groups))]
		g.Items = slices.Insert(g.Items, r.IntN(len(g.Items)+1), someItem(r, s))
		if after, why := size.Size(d); after < before || why != api.OK {
			t.Errorf("Size with an item more: %d, error %d, without it %d", after, why, before)
		}
	}
}

func TestP45Whole(t *testing.T) {
	r := rand.New(rand.NewPCG(4, 5))
	for range 500 {
		d := some(r, signals()[r.IntN(3)])
		n, _ := size.Size(d)
		checkFirst(t, d, n, pdata.Items(d))
	}
}

func TestP3AndP4AlwaysTheSame(t *testing.T) {
	before := runtime.NumGoroutine()
	r := rand.New(rand.NewPCG(4, 6))
	for range 100 {
		d := some(r, signals()[r.IntN(3)])
		written := request(d)
		want, _ := size.Size(d)
		size.First(d, want/2)
		d.Groups = append(make([]api.Group, 0, 100), d.Groups...)
		if n, _ := size.Size(d); n != want || request(d) != written {
			t.Errorf("Size: %d, then %d, or what was handed in is changed", want, n)
		}
	}
	for range 1000 { // one that is joined may still be on its way out
		if runtime.NumGoroutine() <= before {
			return
		}
		runtime.Gosched()
	}
	t.Errorf("%d goroutines are left", runtime.NumGoroutine()-before)
}

func TestP1ManyNested(t *testing.T) {
	deep := whole(1)
	for range 1<<16 - 20 {
		deep = list(deep)
	}
	d := data(api.SignalLog, items(api.Item{Body: deep}))
	_, why := size.Size(d)
	checkErr(t, "Size", why, api.ErrDepth)
	_, why = size.First(d, 1)
	checkErr(t, "First", why, api.ErrDepth)
	_, why = size.Item(d.Groups[0].Items[0], api.SignalLog)
	checkErr(t, "Item", why, api.ErrDepth)
}
