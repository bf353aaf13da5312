package pdata_test

import (
	"math"
	"slices"
	"strconv"
	"strings"
	"testing"

	"penstock/api"
	"penstock/pdata"
)

var (
	long  = strings.Repeat("a", api.MaxText+1)
	most  = strings.Repeat("a", api.MaxText)
	wrong = "a\xff"
)

// checkItem tells what Check says of x alone, and between two right ones.
func checkItem(t *testing.T, name string, s api.Signal, x api.Item, want api.Errno) {
	t.Helper()
	checkErr(t, "Check of "+name, pdata.Check(data(s, group("", x))), want)
	checkErr(t, "Check of "+name+" among others", pdata.Check(data(s, group("a", one(s, "x")), group("b", one(s, "y"), x, one(s, "z")))), want)
}

func TestP31RightData(t *testing.T) {
	for _, s := range signals() {
		for name, d := range map[string]api.Data{
			"no groups":            data(s),
			"empty groups":         data(s, group(""), group("")),
			"one item":             data(s, group("", one(s, ""))),
			"ordinary":             full(s),
			"MaxGroups":            data(s, groups(s, api.MaxGroups, 1)...),
			"MaxItems":             data(s, groups(s, 4, api.MaxItems/4)...),
			"MaxItems in one":      data(s, group("", many(s, api.MaxItems)...)),
			"MaxGroups without":    data(s, groups(s, api.MaxGroups, 0)...),
			"the longest texts":    data(s, api.Group{Scope: most, Version: most, Items: []api.Item{one(s, most)}}),
			"a text that is UTF-8": data(s, api.Group{Scope: "é", Version: "\U0010FFFF", Items: []api.Item{one(s, "\x00")}}),
		} {
			checkErr(t, "Check of "+name, pdata.Check(d), api.OK)
		}
	}
}

func TestP31DataErrors(t *testing.T) {
	for _, s := range []api.Signal{api.SignalNone, api.SignalCount, api.SignalCount + 1, 255} {
		checkErr(t, "Check of no signal", pdata.Check(data(s)), api.ErrType)
		checkErr(t, "Check of no signal, too many groups", pdata.Check(data(s, make([]api.Group, api.MaxGroups+1)...)), api.ErrType)
		checkErr(t, "Check of no signal, a wrong group", pdata.Check(data(s, group(long))), api.ErrType)
	}
	for _, s := range signals() {
		bad := api.Group{Resource: pairs(pair(wrong, whole(1)))}
		for name, x := range map[string]struct {
			groups []api.Group
			want   api.Errno
		}{
			"MaxGroups + 1":          {make([]api.Group, api.MaxGroups+1), api.ErrMany},
			"MaxItems + 1":           {[]api.Group{group("", many(s, api.MaxItems+1)...)}, api.ErrMany},
			"MaxItems + 1 in two":    {[]api.Group{group("a", many(s, api.MaxItems)...), group("b", one(s, ""))}, api.ErrMany},
			"many groups, one wrong": {append(make([]api.Group, api.MaxGroups), bad), api.ErrMany},
			"many items, one wrong":  {[]api.Group{bad, group("", make([]api.Item, api.MaxItems+1)...)}, api.ErrMany},
			"the resource":           {[]api.Group{group(""), bad}, api.ErrUtf},
			"a scope too long":       {[]api.Group{group(long)}, api.ErrLong},
			"a scope no UTF-8":       {[]api.Group{group(wrong)}, api.ErrUtf},
			"a long wrong scope":     {[]api.Group{group(long + "\xff")}, api.ErrLong},
			"a version too long":     {[]api.Group{{Version: long}}, api.ErrLong},
			"a version no UTF-8":     {[]api.Group{{Version: wrong}}, api.ErrUtf},
			"attributes":             {[]api.Group{{Attrs: pairs(pair("a", whole(1)), pair("a", whole(1)))}}, api.ErrState},
		} {
			checkErr(t, "Check of "+name, pdata.Check(data(s, x.groups...)), x.want)
		}
	}
}

// TestP31GroupOrder has each fault of a group ahead of all that come later, in it and behind it.
func TestP31GroupOrder(t *testing.T) {
	faults := []struct {
		do   func(*api.Group)
		want api.Errno
	}{
		{func(g *api.Group) { g.Resource = pairs(pair("a", nested(api.MaxDepth+1))) }, api.ErrDepth},
		{func(g *api.Group) { g.Scope = long }, api.ErrLong},
		{func(g *api.Group) { g.Version = wrong }, api.ErrUtf},
		{func(g *api.Group) { g.Attrs = pairs(pair("a", whole(1)), pair("a", whole(1))) }, api.ErrState},
		{func(g *api.Group) { g.Items = []api.Item{{Kind: -1}} }, api.ErrRange},
	}
	behind := api.Group{Resource: pairs(pair("a", api.Value{N: 1}))}
	for _, s := range signals() {
		for i, f := range faults {
			g := group("", one(s, ""))
			for _, later := range faults[i:] {
				later.do(&g)
				checkErr(t, "Check of a group", pdata.Check(data(s, group("right", one(s, "")), g, behind)), f.want)
			}
		}
	}
}

func TestP31ItemTexts(t *testing.T) {
	for name, set := range map[string]func(*api.Item, string){
		"Name":    func(x *api.Item, s string) { x.Name = s },
		"Unit":    func(x *api.Item, s string) { x.Unit = s },
		"Message": func(x *api.Item, s string) { x.Message = s },
	} {
		for _, s := range signals() {
			for text, want := range map[string]api.Errno{long: api.ErrLong, long + "\xff": api.ErrLong, wrong: api.ErrUtf, "\xed\xa0\x80": api.ErrUtf, most[1:] + "\xc3": api.ErrUtf, strings.Repeat("é", api.MaxText/2) + "a": api.ErrLong} {
				x := one(s, "n")
				set(&x, text)
				checkItem(t, name, s, x, want)
			}
		}
	}
	unit, message := aGauge("m"), aSpan("s")
	unit.Unit, message.Message = most, most
	checkItem(t, "the longest unit", api.SignalMetric, unit, api.OK)
	checkItem(t, "the longest message", api.SignalTrace, message, api.OK)
}

func TestP31Ranges(t *testing.T) {
	bytes := strings.Repeat("\xff", 17)
	kind := func(n int32) func(*api.Item) { return func(x *api.Item) { x.Kind = n } }
	for name, c := range map[string]struct {
		s    api.Signal
		is   bool
		sets []func(*api.Item)
	}{
		"span kinds":    {api.SignalTrace, true, []func(*api.Item){kind(0), kind(1), kind(5)}},
		"no span kinds": {api.SignalTrace, false, []func(*api.Item){kind(-1), kind(6), kind(math.MinInt32), kind(math.MaxInt32)}},
		"codes":         {api.SignalTrace, true, []func(*api.Item){func(x *api.Item) { x.Code = 1 }, func(x *api.Item) { x.Code = 2 }}},
		"no codes":      {api.SignalTrace, false, []func(*api.Item){func(x *api.Item) { x.Code = 3 }, func(x *api.Item) { x.Code = 255 }}},
		"names of spans": {api.SignalTrace, true, []func(*api.Item){
			func(x *api.Item) { x.Trace = bytes[:16] }, func(x *api.Item) { x.Span = bytes[:8] }, func(x *api.Item) { x.Parent = bytes[:8] },
		}},
		"no names of spans": {api.SignalTrace, false, []func(*api.Item){
			func(x *api.Item) { x.Trace = "" }, func(x *api.Item) { x.Trace = bytes[:15] }, func(x *api.Item) { x.Trace = bytes[:17] }, func(x *api.Item) { x.Trace = bytes[:8] },
			func(x *api.Item) { x.Span = "" }, func(x *api.Item) { x.Span = bytes[:7] }, func(x *api.Item) { x.Span = bytes[:9] }, func(x *api.Item) { x.Span = bytes[:16] },
			func(x *api.Item) { x.Parent = bytes[:1] }, func(x *api.Item) { x.Parent = bytes[:7] }, func(x *api.Item) { x.Parent = bytes[:9] }, func(x *api.Item) { x.Parent = bytes[:16] },
		}},
		"log kinds":    {api.SignalLog, true, []func(*api.Item){kind(0), kind(6), kind(24)}},
		"no log kinds": {api.SignalLog, false, []func(*api.Item){kind(-1), kind(25), kind(math.MinInt32), kind(math.MaxInt32)}},
		"names of logs": {api.SignalLog, true, []func(*api.Item){
			func(x *api.Item) { x.Trace = bytes[:16] }, func(x *api.Item) { x.Span = bytes[:8] },
		}},
		"no names of logs": {api.SignalLog, false, []func(*api.Item){
			func(x *api.Item) { x.Trace = bytes[:1] }, func(x *api.Item) { x.Trace = bytes[:15] }, func(x *api.Item) { x.Trace = bytes[:17] }, func(x *api.Item) { x.Trace = bytes[:8] },
			func(x *api.Item) { x.Span = bytes[:1] }, func(x *api.Item) { x.Span = bytes[:7] }, func(x *api.Item) { x.Span = bytes[:9] }, func(x *api.Item) { x.Span = bytes[:16] },
		}},
		"no metric kinds": {api.SignalMetric, false, []func(*api.Item){kind(0), kind(-1), kind(6), kind(math.MinInt32), kind(math.MaxInt32)}},
		"no temporality":  {api.SignalMetric, false, []func(*api.Item){func(x *api.Item) { x.Temp = 3 }, func(x *api.Item) { x.Temp = 255 }}},
	} {
		for i, set := range c.sets {
			x, want := one(c.s, "n"), api.OK
			if !c.is {
				want = api.ErrRange
			}
			set(&x)
			checkItem(t, name+" "+strconv.Itoa(i), c.s, x, want)
		}
	}
}

// TestP31OtherSignals has each field in each signal: it is only right where the signal has it.
func TestP31OtherSignals(t *testing.T) {
	sum := func(x *api.Item) { x.Kind = api.MetricSum }
	for name, f := range map[string]struct {
		set func(*api.Item)
		has []api.Signal
	}{
		"Name":         {func(x *api.Item) { x.Name = "a" }, signals()},
		"Kind":         {func(x *api.Item) { x.Kind = 2 }, signals()},
		"Start":        {func(x *api.Item) { x.Start = math.MaxUint64 }, signals()},
		"Time":         {func(x *api.Item) { x.Time = math.MaxUint64 }, signals()},
		"Attrs":        {func(x *api.Item) { x.Attrs = pairs(pair("", api.Value{})) }, signals()},
		"Unit":         {func(x *api.Item) { x.Unit = "a" }, signals()[2:]},
		"Temp":         {func(x *api.Item) { x.Temp = 1; sum(x) }, signals()[2:]},
		"Temp 2":       {func(x *api.Item) { x.Temp = 2; sum(x) }, signals()[2:]},
		"Temp 255":     {func(x *api.Item) { x.Temp = 255 }, nil},
		"Mono":         {func(x *api.Item) { x.Mono = true; sum(x) }, signals()[2:]},
		"Point int":    {func(x *api.Item) { x.Point = api.Point{Kind: api.PointInt} }, signals()[2:]},
		"Point float":  {func(x *api.Item) { x.Point = api.Point{Kind: api.PointFloat} }, signals()[2:]},
		"Point hist":   {func(x *api.Item) { x.Kind = api.MetricHist; x.Point = api.Point{Kind: api.PointHist} }, signals()[2:]},
		"Body":         {func(x *api.Item) { x.Body = text("") }, signals()[1:2]},
		"Body none":    {func(x *api.Item) { x.Body = api.Value{List: []api.Value{}} }, signals()},
		"Code":         {func(x *api.Item) { x.Code = 1 }, signals()[:1]},
		"Message":      {func(x *api.Item) { x.Message = "a" }, signals()[:1]},
		"Parent":       {func(x *api.Item) { x.Parent = span }, signals()[:1]},
		"Trace":        {func(x *api.Item) { x.Trace = trace }, signals()[:2]},
		"Span":         {func(x *api.Item) { x.Span = span }, signals()[:2]},
		"empty Attrs":  {func(x *api.Item) { x.Attrs = []api.Pair{} }, signals()},
		"empty Counts": {func(x *api.Item) { x.Point.Counts = []uint64{} }, signals()},
		"Parent of one byte, of a log, a metric": {func(x *api.Item) {
			if x.Trace == "" {
				x.Parent = "a"
			}
		}, signals()[:1]},
	} {
		for _, s := range signals() {
			x, want := one(s, "n"), api.ErrType
			f.set(&x)
			if slices.Contains(f.has, s) {
				want = api.OK
			}
			if name == "Temp 255" && s == api.SignalMetric {
				want = api.ErrRange // told ahead of what is of another signal
			}
			checkItem(t, name+" of signal "+strconv.Itoa(int(s)), s, x, want)
		}
	}
}

func TestP31Metrics(t *testing.T) {
	points := map[api.PointKind][]int32{
		api.PointNone:    {api.MetricGauge, api.MetricSum},
		api.PointInt:     {api.MetricGauge, api.MetricSum},
		api.PointFloat:   {api.MetricGauge, api.MetricSum},
		api.PointHist:    {api.MetricHist},
		api.PointExp:     {api.MetricExp},
		api.PointSummary: {api.MetricSummary},
	}
	temps := []int32{api.MetricSum, api.MetricHist, api.MetricExp}
	for kind := api.MetricGauge; kind <= api.MetricSummary; kind++ {
		for p, kinds := range points {
			for _, temp := range []uint8{0, 1, 2} {
				for _, mono := range []bool{false, true} {
					is := slices.Contains(kinds, kind) && (temp == 0 || slices.Contains(temps, kind)) && (!mono || kind == api.MetricSum)
					want := api.ErrType
					if is {
						want = api.OK
					}
					x := api.Item{Kind: kind, Temp: temp, Mono: mono, Point: api.Point{Kind: p}}
					checkItem(t, "metric "+strconv.Itoa(int(kind))+" of a point "+strconv.Itoa(int(p)), api.SignalMetric, x, want)
				}
			}
		}
	}
}

// faultsOf is what may be wrong with an item of the signal, in order; several are of one error.
func faultsOf(s api.Signal) []fault {
	l := []fault{
		{func(x *api.Item) { x.Name = long }, api.ErrLong},
		{func(x *api.Item) { x.Unit = wrong }, api.ErrUtf},
		{func(x *api.Item) { x.Message = long }, api.ErrLong},
		{func(x *api.Item) { x.Kind = -1 }, api.ErrRange},
		{func(x *api.Item) { x.Attrs = pairs(pair("a", whole(1)), pair("a", whole(1))) }, api.ErrState},
		{func(x *api.Item) { x.Body = nested(api.MaxDepth + 1) }, api.ErrDepth},
		{func(x *api.Item) { x.Point = api.Point{Kind: api.PointCount, Bounds: make([]float64, api.MaxParts+1)} }, api.ErrMany},
		{func(x *api.Item) { x.Point = api.Point{N: 1}; x.Parent = "abc" }, api.ErrType},
	}
	if s == api.SignalTrace {
		l[7].do = func(x *api.Item) { x.Point = api.Point{N: 1} }
	}
	return l
}

type fault struct {
	do   func(*api.Item)
	want api.Errno
}

func TestP31ItemOrder(t *testing.T) {
	for _, s := range signals() {
		faults := faultsOf(s)
		for i, f := range faults {
			for _, later := range faults[i:] {
				x := one(s, "n")
				later.do(&x)
				f.do(&x) // behind it, since two faults of a point are of one field
				checkItem(t, "two faults", s, x, f.want)
			}
		}
	}
	first := aLog("a")
	first.Name, first.Unit = wrong, long
	checkItem(t, "Name ahead of Unit", api.SignalLog, first, api.ErrUtf)
	first = aLog("a")
	first.Unit, first.Message = wrong, long
	checkItem(t, "Unit ahead of Message", api.SignalLog, first, api.ErrUtf)
	x, y := aLog("x"), aLog("y")
	x.Kind, y.Name = 25, long
	checkErr(t, "Check of two wrong items", pdata.Check(data(api.SignalLog, group("", x, y))), api.ErrRange)
	checkErr(t, "Check of two wrong items", pdata.Check(data(api.SignalLog, group("", y), group("", x))), api.ErrLong)
}

func TestP31ForeignFieldsComeLast(t *testing.T) {
	x := aSpan("s")
	x.Unit, x.Attrs = "u", pairs(pair(wrong, whole(1)))
	checkItem(t, "a unit of a span behind its attributes", api.SignalTrace, x, api.ErrUtf)
	x = aGauge("m")
	x.Body, x.Point = text("b"), api.Point{Kind: api.PointInt, Quants: make([]api.Quant, api.MaxParts+1)}
	checkItem(t, "a body of a metric behind its point", api.SignalMetric, x, api.ErrMany)
	x = aGauge("m")
	x.Trace, x.Body = trace, text(wrong)
	checkItem(t, "a trace of a metric behind its body", api.SignalMetric, x, api.ErrUtf)
	x = aLog("l")
	x.Parent, x.Span = "p", "s"
	checkItem(t, "a parent of a log behind its span", api.SignalLog, x, api.ErrRange)
}

func TestP31Items(t *testing.T) {
	for want, d := range map[int]api.Data{
		0:                {},
		1:                data(api.SignalLog, group(""), group("", aLog(""))),
		6:                logs("a:1 2", "b:", "c:3 4 5", "a:6"),
		3:                data(99, group(long, api.Item{Kind: -1}, api.Item{}), group(wrong, api.Item{})),
		api.MaxItems + 1: data(api.SignalTrace, group("", make([]api.Item, api.MaxItems+1)...)),
	} {
		if n := pdata.Items(d); n != want {
			t.Errorf("Items: %d, want %d", n, want)
		}
	}
	if n := pdata.Items(data(api.SignalLog, make([]api.Group, 100)...)); n != 0 {
		t.Errorf("Items of 100 empty groups: %d", n)
	}
}
