package filter_test

import (
	"math/rand/v2"
	"slices"
	"strings"
	"testing"

	"penstock/api"
	"penstock/conf"
	"penstock/filter"
	"penstock/pdata"
)

// read is the steps of a text that is right.
func read(s string) []api.PredStep {
	l, why := filter.Parse(s)
	if why != api.OK {
		panic(s)
	}
	return l
}

// left is what a model leaves of d, and how many it leaves out.
func left(d api.Data, x tree) (api.Data, int) {
	out, n := api.Data{Signal: d.Signal}, 0
	for _, g := range twin(d).Groups {
		items := g.Items
		g.Items = nil
		for _, i := range items {
			if x.holds(i, g.Resource) {
				n++
			} else {
				g.Items = append(g.Items, i)
			}
		}
		if len(g.Items) > 0 {
			out.Groups = append(out.Groups, g)
		}
	}
	return out, n
}

func TestP152Drop(t *testing.T) {
	for _, s := range signals() {
		d := data(s, "a b a", "b", "c a", "a")
		without := func(at ...int) api.Data {
			out := twin(d)
			for i := range out.Groups {
				g := &out.Groups[i]
				g.Items = slices.DeleteFunc(g.Items, func(x api.Item) bool { return strings.Contains("abc", x.Name) && slices.Contains(at, int(x.Name[0])) })
			}
			out.Groups = slices.DeleteFunc(out.Groups, func(g api.Group) bool { return len(g.Items) == 0 })
			return out
		}
		for text, x := range map[string]struct {
			left  api.Data
			count int
		}{
			"false":                                {d, 0},
			"true":                                 {api.Data{Signal: s}, 7},
			`name == "a"`:                          {without('a'), 4},
			`name == "b"`:                          {without('b'), 2},
			`name == "c"`:                          {without('c'), 1},
			`name == "x"`:                          {d, 0},
			`name != "a"`:                          {without('b', 'c'), 3},
			`attr["name"] < "b"`:                   {without('a'), 4},
			`has(attr["name"])`:                    {api.Data{Signal: s}, 7},
			`has(attr["x"])`:                       {d, 0},
			`resource["group"] == 0`:               {api.Data{Signal: s, Groups: d.Groups[1:]}, 3},
			`resource["group"] == 3`:               {api.Data{Signal: s, Groups: d.Groups[:3]}, 1},
			`resource["group"] != 2`:               {api.Data{Signal: s, Groups: d.Groups[2:3]}, 5},
			`resource["group"] > 0 or name != "b"`: {api.Data{Signal: s, Groups: data(s, "b").Groups}, 6},
			"has(body)":                            {map[bool]api.Data{true: {Signal: s}, false: d}[s == api.SignalLog], map[bool]int{true: 7}[s == api.SignalLog]},
			`trace != attr["x"]`:                   {d, 0},
			"time == 7":                            {api.Data{Signal: s}, 7},
		} {
			checkDrop(t, text, d, read(text), x.left, x.count, api.OK)
		}
		checkDrop(t, "nothing", api.Data{Signal: s}, steps(yes), api.Data{Signal: s}, 0, api.OK)
		checkDrop(t, "no items", data(s, "", ""), steps(yes), api.Data{Signal: s}, 0, api.OK)
		checkDrop(t, "a group without items", data(s, "a", "", "b"), steps(no), api.Data{Signal: s, Groups: []api.Group{data(s, "a").Groups[0], data(s, "", "", "b").Groups[2]}}, 0, api.OK)
	}
}

// TestP152DropAlike has groups that are alike, which stay apart.
func TestP152DropAlike(t *testing.T) {
	d := api.Data{Signal: api.SignalLog, Groups: []api.Group{{Items: []api.Item{{Name: "a"}, {Name: "b"}}}, {Items: []api.Item{{Name: "a"}}}, {Items: []api.Item{{Name: "b"}, {Name: "a"}}}}}
	want := api.Data{Signal: api.SignalLog, Groups: []api.Group{{Items: []api.Item{{Name: "b"}}}, {Items: []api.Item{{Name: "b"}}}}}
	checkDrop(t, "groups that are alike", d, read(`name == "a"`), want, 3, api.OK)
}

func TestP152DropRefused(t *testing.T) {
	fine := data(api.SignalLog, "a b", "c")
	for name, x := range map[string]struct {
		want api.Errno
		bad  func(*api.Data)
	}{
		"no signal":              {api.ErrType, func(d *api.Data) { d.Signal = api.SignalNone }},
		"a signal beyond":        {api.ErrType, func(d *api.Data) { d.Signal = api.SignalCount }},
		"another signal":         {api.ErrRange, func(d *api.Data) { d.Signal = api.SignalTrace }},
		"too many groups":        {api.ErrMany, func(d *api.Data) { d.Groups = make([]api.Group, api.MaxGroups+1) }},
		"too many items":         {api.ErrMany, func(d *api.Data) { d.Groups[0].Items = make([]api.Item, api.MaxItems) }},
		"a resource's key twice": {api.ErrState, func(d *api.Data) { d.Groups[1].Resource = pairs(pair("a", whole(1)), pair("a", whole(1))) }},
		"an item's key twice":    {api.ErrState, func(d *api.Data) { d.Groups[1].Items[0].Attrs = pairs(pair("a", whole(1)), pair("a", whole(1))) }},
		"a long name":            {api.ErrLong, func(d *api.Data) { d.Groups[0].Items[1].Name = strings.Repeat("x", api.MaxText+1) }},
		"a scope of no UTF-8":    {api.ErrUtf, func(d *api.Data) { d.Groups[1].Scope = "\xff" }},
		"a point of a log":       {api.ErrType, func(d *api.Data) { d.Groups[1].Items[0].Point = api.Point{Kind: api.PointInt} }},
	} {
		d := twin(fine)
		x.bad(&d)
		for _, l := range [][]api.PredStep{steps(yes), steps(no), read(`name == "a"`), read(`has(attr["a"])`), read("has(value)")} {
			checkDrop(t, name, d, l, api.Data{}, 0, x.want)
		}
		checkDrop(t, name+", and steps", d, nil, api.Data{}, 0, api.ErrConf)
		checkDrop(t, name+", and steps", d, steps(yes, and), api.Data{}, 0, api.ErrConf)
	}
}

// someData is right.
func someData(r *rand.Rand) api.Data {
	d := api.Data{Signal: pick(r, signals()...)}
	someAttrs := func() []api.Pair {
		var l []api.Pair
		for _, k := range []string{"a", "b", "c", ""}[:r.IntN(5)] {
			v := pick(r, several()...)
			if v.S == "\xff" {
				v.S = ""
			}
			l = append(l, pair(k, v))
		}
		return l
	}
	for range r.IntN(4) {
		g := api.Group{Resource: someAttrs(), Scope: pick(r, "", "s"), Attrs: someAttrs()}
		for range r.IntN(4) {
			x := item(d.Signal, pick(r, "", "a", "ab"), someAttrs()...)
			if d.Signal == api.SignalMetric && r.IntN(2) == 0 {
				x.Kind, x.Point = api.MetricGauge, pick(r, api.Point{}, api.Point{Kind: api.PointInt, N: 1}, api.Point{Kind: api.PointFloat, F: pick(r, 1.5, minus)})
			}
			g.Items = append(g.Items, x)
		}
		d.Groups = append(d.Groups, g)
	}
	return d
}

func TestP152DropModel(t *testing.T) {
	r := rand.New(rand.NewPCG(15, 9))
	for range 5000 {
		d, x := someData(r), someTruth(r, r.IntN(4))
		want, n := left(d, x)
		checkDrop(t, x.printed(), d, x.steps(), want, n, api.OK)
	}
}

func TestP156LeftOut(t *testing.T) {
	r := rand.New(rand.NewPCG(15, 10))
	had := 0
	for range 3000 {
		d, l := someData(r), someTruth(r, r.IntN(4)).steps()
		out, n, why := filter.Drop(d, l)
		if why != api.OK || pdata.Items(out)+n != pdata.Items(d) || pdata.Check(out) != api.OK {
			t.Errorf("Drop: %d items, %d left out of %d, error %d", pdata.Items(out), n, pdata.Items(d), why)
		}
		had += n
		for _, g := range out.Groups {
			for _, x := range g.Items {
				is, why := filter.Holds(l, x, g.Resource)
				check(t, "Holds of what is left", is, why, false, api.OK)
			}
		}
		again, n, why := filter.Drop(out, l)
		check(t, "Drop once more", again, why, out, api.OK)
		check(t, "what that leaves out", n, why, 0, api.OK)
	}
	if had < 1000 {
		t.Errorf("%d left out only", had)
	}
}

// TestP152DropGreat has as many items and steps as may be, and a great value that all groups ask for.
func TestP152DropGreat(t *testing.T) {
	d := data(api.SignalLog, strings.Repeat("a ", api.MaxItems/2), strings.Repeat("b ", api.MaxItems/2))
	many := make([]api.Value, api.MaxParts)
	for i := range many {
		many[i] = list(make([]api.Value, api.MaxParts)...)
	}
	d.Groups[0].Resource = pairs(pair("great", list(many...)), pair("group", whole(0)))
	l := read(`has(resource["great"])`)
	for range 127 {
		l = append(l, ofResource("great"), has, or)
	}
	l = l[:254]
	out, n, why := filter.Drop(d, l)
	check(t, "Drop", pdata.Items(out), why, api.MaxItems/2, api.OK)
	check(t, "what is left out", n, why, api.MaxItems/2, api.OK)
}

func checkRead(t *testing.T, name string, n api.Node, want []api.PredStep, wantWhy api.Errno) {
	t.Helper()
	l, why := filter.Read(n)
	check(t, "Read of "+name, l, why, want, wantWhy)
}

func TestP152Read(t *testing.T) {
	for s, l := range predicates() {
		if conf.Check(dropNode(s)) == api.OK {
			checkRead(t, s, dropNode(s), l, api.OK)
		}
	}
	drop := key("drop", textNode("true"))
	checkRead(t, "drop alone", mapNode(drop), steps(yes), api.OK)
	checkRead(t, "drop, kind", mapNode(drop, key("kind", textNode("filter"))), steps(yes), api.OK)
	for _, kind := range []api.Node{textNode(""), textNode("batch"), listNode("x"), mapNode(key("drop", textNode("false")))} {
		checkRead(t, "any kind", mapNode(key("kind", kind), drop), steps(yes), api.OK)
	}
	checkRead(t, "nothing", mapNode(), nil, api.ErrConf)
	checkRead(t, "the kind alone", mapNode(key("kind", textNode("filter"))), nil, api.ErrConf)
	checkRead(t, "a kind that is a predicate", mapNode(key("kind", textNode("true"))), nil, api.ErrConf)
	for _, x := range []api.Node{listNode(), listNode("true"), mapNode(), mapNode(key("true", textNode("true"))), mapNode(drop)} {
		checkRead(t, "drop that is no text", mapNode(key("drop", x)), nil, api.ErrConf)
		checkRead(t, "drop that is no text, and a kind", mapNode(key("kind", textNode("filter")), key("drop", x)), nil, api.ErrConf)
	}
	for _, k := range []string{"Drop", "drops", "keep", "Kind", "kinds", "on", "actions", "size", "a"} {
		for _, x := range []api.Node{textNode("true"), listNode(), mapNode()} {
			checkRead(t, "another key", mapNode(drop, key(k, x)), nil, api.ErrConf)
			checkRead(t, "another key, first", mapNode(key(k, x), drop), nil, api.ErrConf)
			checkRead(t, "another key alone", mapNode(key(k, x)), nil, api.ErrConf)
		}
	}
	for _, s := range []string{"", " ", "x", "True", "true true", "name", strings.Repeat("(", 9) + "true" + strings.Repeat(")", 9)} {
		checkRead(t, brief(s), dropNode(s), nil, api.ErrConf)
	}
	many := strings.Repeat("true and ", 130)
	checkRead(t, "too many steps", dropNode(many+"true"), nil, api.ErrMany)
	checkRead(t, "too many steps, and what is none", dropNode(many+"tru"), nil, api.ErrConf)
	checkRead(t, "too many steps, and another key", mapNode(key("drop", textNode(many+"true")), key("x", textNode("x"))), nil, api.ErrConf)
}

// TestP152ReadConf has nodes that conf.Check refuses.
func TestP152ReadConf(t *testing.T) {
	long := strings.Repeat(" ", api.MaxText-4)
	checkRead(t, "a long text", dropNode("true"+long), steps(yes), api.OK)
	for name, n := range map[string]api.Node{
		"a text":           textNode("true"),
		"a list":           listNode("true"),
		"no kind":          {Kind: api.NodeCount},
		"a text too long":  dropNode("true " + long),
		"a key twice":      mapNode(key("drop", textNode("true")), key("drop", textNode("true"))),
		"a map with more":  {Text: "true", Keys: dropNode("true").Keys},
		"a control":        dropNode("name == \"\x01\""),
		"no key":           mapNode(key("drop", textNode("true")), key("", textNode("x"))),
		"a text with more": mapNode(key("drop", api.Node{Kind: api.NodeText, Text: "true", List: []string{"x"}})),
		"a kind that is 9": mapNode(key("drop", textNode("true")), key("kind", api.Node{Kind: 9})),
	} {
		if why := conf.Check(n); why != api.ErrConf {
			t.Fatalf("%s is right", name)
		}
		checkRead(t, name, n, nil, api.ErrConf)
	}
}

// TestP152ReadText has a config's text.
func TestP152ReadText(t *testing.T) {
	n, why, _ := conf.Parse("kind: filter\ndrop: \"name == \\\"GET\\\" and attr[\\\"n\\\"] >= 500\"\n")
	if why != api.OK {
		t.Fatalf("Parse: error %d", why)
	}
	checkRead(t, "a config", n, read(`name == "GET" and attr["n"] >= 500`), api.OK)
	n, _, _ = conf.Parse("drop: attr[\"n\"] >= 500 # too many\n")
	checkRead(t, "a config that is plain", n, steps(ofItem("n"), anInt(500), op(api.PredLeast)), api.OK)
}
