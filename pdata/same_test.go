package pdata_test

import (
	"math"
	"math/rand/v2"
	"testing"

	"penstock/api"
	"penstock/pdata"
)

// checkSame tells what Same and SameItem say of a and b, turned round, too.
func checkSame(t *testing.T, name string, a, b api.Item, want bool) {
	t.Helper()
	if pdata.SameItem(a, b) != want || pdata.SameItem(b, a) != want {
		t.Errorf("SameItem of %s: not %v", name, want)
	}
	one := data(api.SignalLog, group("", aLog("x"), a))
	other := data(api.SignalLog, group("", aLog("x"), b))
	if pdata.Same(one, other) != want || pdata.Same(other, one) != want {
		t.Errorf("Same of %s: not %v", name, want)
	}
}

// TestP31SameItem has, by field, two items that differ in it alone.
func TestP31SameItem(t *testing.T) {
	for name, set := range map[string]func(*api.Item){
		"Name":      func(x *api.Item) { x.Name = "a" },
		"Unit":      func(x *api.Item) { x.Unit = "a" },
		"Kind":      func(x *api.Item) { x.Kind = -1 },
		"Temp":      func(x *api.Item) { x.Temp = 1 },
		"Mono":      func(x *api.Item) { x.Mono = true },
		"Start":     func(x *api.Item) { x.Start = 1 },
		"Time":      func(x *api.Item) { x.Time = 1 },
		"Trace":     func(x *api.Item) { x.Trace = "a" },
		"Span":      func(x *api.Item) { x.Span = "a" },
		"Parent":    func(x *api.Item) { x.Parent = "a" },
		"Code":      func(x *api.Item) { x.Code = 1 },
		"Message":   func(x *api.Item) { x.Message = "a" },
		"Attrs":     func(x *api.Item) { x.Attrs = pairs(pair("", api.Value{})) },
		"Body":      func(x *api.Item) { x.Body = text("") },
		"a list":    func(x *api.Item) { x.Body = api.Value{List: []api.Value{{}}} },
		"N":         func(x *api.Item) { x.Point.N = 1 },
		"PointKind": func(x *api.Item) { x.Point.Kind = 1 },
		"F":         func(x *api.Item) { x.Point.F = minus },
		"Count":     func(x *api.Item) { x.Point.Count = 1 },
		"Sum":       func(x *api.Item) { x.Point.Sum = minus },
		"HasSum":    func(x *api.Item) { x.Point.HasSum = true },
		"Bounds":    func(x *api.Item) { x.Point.Bounds = []float64{0} },
		"Counts":    func(x *api.Item) { x.Point.Counts = []uint64{0} },
		"Scale":     func(x *api.Item) { x.Point.Scale = 1 },
		"Zero":      func(x *api.Item) { x.Point.Zero = 1 },
		"Offset":    func(x *api.Item) { x.Point.Offset = 1 },
		"NegOffset": func(x *api.Item) { x.Point.NegOffset = 1 },
		"NegCounts": func(x *api.Item) { x.Point.NegCounts = []uint64{0} },
		"Quants":    func(x *api.Item) { x.Point.Quants = []api.Quant{{}} },
	} {
		for _, base := range []api.Item{{}, {Name: "n", Point: api.Point{N: 5}}} {
			x := twin(base)
			set(&x)
			checkSame(t, name, base, x, false)
			checkSame(t, name+" and itself", x, twin(x), true)
		}
	}
}

func TestP31SameLists(t *testing.T) {
	nan := func(n uint64) float64 { return math.Float64frombits(0x7ff8000000000000 + n) }
	item := func(p api.Point) api.Item { return api.Item{Point: p} }
	for name, c := range map[string]struct {
		a, b api.Item
		want bool
	}{
		"NaN":                {item(api.Point{F: nan(1)}), item(api.Point{F: nan(1)}), true},
		"two NaNs":           {item(api.Point{F: nan(1)}), item(api.Point{F: nan(2)}), false},
		"sums NaN":           {item(api.Point{Sum: nan(1)}), item(api.Point{Sum: nan(1)}), true},
		"two sums NaN":       {item(api.Point{Sum: nan(1)}), item(api.Point{Sum: nan(2)}), false},
		"bounds":             {item(api.Point{Bounds: []float64{1, nan(1)}}), item(api.Point{Bounds: []float64{1, nan(1)}}), true},
		"bounds 0 and -0":    {item(api.Point{Bounds: []float64{0}}), item(api.Point{Bounds: []float64{minus}}), false},
		"bounds in order":    {item(api.Point{Bounds: []float64{1, 2}}), item(api.Point{Bounds: []float64{2, 1}}), false},
		"counts in order":    {item(api.Point{Counts: []uint64{1, 2}}), item(api.Point{Counts: []uint64{2, 1}}), false},
		"a count more":       {item(api.Point{Counts: []uint64{1, 2}}), item(api.Point{Counts: []uint64{1, 2, 0}}), false},
		"negative in order":  {item(api.Point{NegCounts: []uint64{1, 2}}), item(api.Point{NegCounts: []uint64{2, 1}}), false},
		"quantiles":          {item(api.Point{Quants: []api.Quant{{Q: nan(1), V: nan(2)}}}), item(api.Point{Quants: []api.Quant{{Q: nan(1), V: nan(2)}}}), true},
		"quantiles' Q":       {item(api.Point{Quants: []api.Quant{{Q: 0}}}), item(api.Point{Quants: []api.Quant{{Q: minus}}}), false},
		"quantiles' V":       {item(api.Point{Quants: []api.Quant{{V: 0}}}), item(api.Point{Quants: []api.Quant{{V: minus}}}), false},
		"counts, NegCounts":  {item(api.Point{Counts: []uint64{1}}), item(api.Point{NegCounts: []uint64{1}}), false},
		"nil and empty":      {api.Item{}, api.Item{Attrs: []api.Pair{}, Body: api.Value{List: []api.Value{}, Pairs: []api.Pair{}}, Point: api.Point{Bounds: []float64{}, Counts: []uint64{}, NegCounts: []uint64{}, Quants: []api.Quant{}}}, true},
		"attributes' order":  {api.Item{Attrs: pairs(pair("a", whole(1)), pair("b", whole(2)))}, api.Item{Attrs: pairs(pair("b", whole(2)), pair("a", whole(1)))}, false},
		"attributes' values": {api.Item{Attrs: pairs(pair("a", list(whole(1))))}, api.Item{Attrs: pairs(pair("a", list(whole(2))))}, false},
		"bodies' floats":     {api.Item{Body: api.Value{F: 0}}, api.Item{Body: api.Value{F: minus}}, false},
	} {
		checkSame(t, name, c.a, c.b, c.want)
	}
}

func TestP31SameData(t *testing.T) {
	base := logs("a:1 2", "b:3")
	change := func(do func(*api.Data)) api.Data {
		d := twin(base)
		do(&d)
		return d
	}
	for name, d := range map[string]api.Data{
		"the signal":      change(func(d *api.Data) { d.Signal = api.SignalTrace }),
		"a scope":         change(func(d *api.Data) { d.Groups[1].Scope = "c" }),
		"a version":       change(func(d *api.Data) { d.Groups[1].Version = "1" }),
		"a resource":      change(func(d *api.Data) { d.Groups[0].Resource = pairs(pair("", api.Value{})) }),
		"attributes":      change(func(d *api.Data) { d.Groups[0].Attrs = pairs(pair("", api.Value{})) }),
		"an item":         change(func(d *api.Data) { d.Groups[0].Items[1].Name = "3" }),
		"no groups":       data(api.SignalLog),
		"a group less":    logs("a:1 2"),
		"an empty group":  logs("a:1 2", "b:3", ":"),
		"items' order":    logs("a:2 1", "b:3"),
		"groups' order":   logs("b:3", "a:1 2"),
		"other groups":    logs("a:1", "b:2 3"),
		"an item more":    logs("a:1 2", "b:3 4"),
		"groups in parts": logs("a:1", "a:2", "b:3"),
	} {
		if pdata.Same(base, d) || pdata.Same(d, base) {
			t.Errorf("Same of data that differ in %s", name)
		}
	}
	for _, d := range []api.Data{{}, base, full(api.SignalTrace), full(api.SignalMetric), data(99, group(wrong, api.Item{Kind: -1, Point: api.Point{Kind: 99}}))} {
		if !pdata.Same(d, twin(d)) {
			t.Errorf("Same of data and itself: %v", told(d))
		}
	}
	if !pdata.Same(data(1), api.Data{Signal: 1, Groups: []api.Group{}}) || !pdata.Same(data(1, group("")), data(1, api.Group{Resource: []api.Pair{}, Attrs: []api.Pair{}, Items: []api.Item{}})) {
		t.Error("Same of nil and empty lists")
	}
}

func TestP31SameOfAny(t *testing.T) {
	r := rand.New(rand.NewPCG(3, 1))
	for range 3000 {
		a, b := some(r, api.SignalLog), some(r, api.SignalLog)
		if r.IntN(2) == 0 {
			b = twin(a)
		}
		if pdata.Same(a, b) != same(a, b) {
			t.Errorf("Same of %v and %v: not %v", told(a), told(b), same(a, b))
		}
	}
}
