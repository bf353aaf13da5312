package attrs_test

import (
	"math/rand/v2"
	"slices"
	"testing"

	"penstock/api"
	"penstock/attrs"
	"penstock/pdata"
	"penstock/value"
)

// behind is d, of which the model did the actions.
func behind(d api.Data, a api.Attrs) api.Data {
	d = twin(d)
	for i := range d.Groups {
		g := &d.Groups[i]
		if a.Resource {
			g.Resource = model(g.Resource, a.Actions)
		}
		for k := range g.Items {
			if !a.Resource {
				g.Items[k].Attrs = model(g.Items[k].Attrs, a.Actions)
			}
		}
	}
	return d
}

func TestP142Apply(t *testing.T) {
	x, y := pair("a", whole(1)), pair("b", text("y"))
	for _, s := range signals() {
		d := data(s, [][]api.Pair{{x}, nil, {y, x}}, nil, [][]api.Pair{{y}})
		want := data(s, [][]api.Pair{{pair("a", text("n"))}, {pair("a", text("n"))}, {pair("a", text("n"))}}, nil, [][]api.Pair{{pair("a", text("n"))}})
		checkApply(t, "items", d, items(remove("b"), upsert("a", text("n"))), want, api.OK)
		want = twin(d)
		for i := range want.Groups {
			want.Groups[i].Resource = pairs(pair("a", digest(text("resource"))), pair("n", truth(true)))
		}
		checkApply(t, "resources", d, resources(remove("r"), hash("a"), insert("n", truth(true))), want, api.OK)
		for _, a := range []api.Action{insert("a", part(2)), update("b", part(2)), upsert("b", part(2)), remove("a"), hash("a"), hash("b")} {
			for _, a := range []api.Attrs{items(a), resources(a), items(a, insert("x", whole(1)), a), resources(hash("r"), a)} {
				checkApply(t, brief(a), d, a, behind(d, a), api.OK)
			}
		}
		checkApply(t, "no actions", d, items(), d, api.OK)
		checkApply(t, "no actions on resources", d, resources(), d, api.OK)
		checkApply(t, "nothing", api.Data{Signal: s}, items(remove("a")), api.Data{Signal: s}, api.OK)
		checkApply(t, "groups without items", data(s, nil, nil), items(insert("a", whole(1))), data(s, nil, nil), api.OK)
	}
}

// TestP142ApplyAlike has groups that become alike, and stay apart.
func TestP142ApplyAlike(t *testing.T) {
	d := data(api.SignalLog, [][]api.Pair{nil}, [][]api.Pair{nil, nil})
	got, why := attrs.Apply(d, resources(remove("r")))
	if why != api.OK || len(got.Groups) != 2 || len(got.Groups[0].Items) != 1 || !value.SamePairs(got.Groups[0].Resource, got.Groups[1].Resource) {
		t.Errorf("Apply: error %d, %s", why, brief(got))
	}
}

func TestP142ApplyRefused(t *testing.T) {
	fine := data(api.SignalLog, [][]api.Pair{nil})
	for name, x := range map[string]struct {
		want api.Errno
		bad  func(*api.Data)
	}{
		"no signal":              {api.ErrType, func(d *api.Data) { d.Signal = api.SignalNone }},
		"a signal beyond":        {api.ErrType, func(d *api.Data) { d.Signal = api.SignalCount }},
		"another signal":         {api.ErrRange, func(d *api.Data) { d.Signal = api.SignalTrace }},
		"too many groups":        {api.ErrMany, func(d *api.Data) { d.Groups = make([]api.Group, api.MaxGroups+1) }},
		"too many items":         {api.ErrMany, func(d *api.Data) { d.Groups[0].Items = make([]api.Item, api.MaxItems+1) }},
		"a resource's key twice": {api.ErrState, func(d *api.Data) { d.Groups[0].Resource = pairs(pair("a", whole(1)), pair("a", whole(1))) }},
		"an item's key twice":    {api.ErrState, func(d *api.Data) { d.Groups[0].Items[0].Attrs = pairs(pair("a", whole(1)), pair("a", whole(1))) }},
		"too many of an item":    {api.ErrMany, func(d *api.Data) { d.Groups[0].Items[0].Attrs = numbered(api.MaxParts + 1) }},
		"a scope of no UTF-8":    {api.ErrUtf, func(d *api.Data) { d.Groups[0].Scope = "\xff" }},
	} {
		d := twin(fine)
		x.bad(&d)
		for _, a := range []api.Attrs{items(), resources(), items(remove("a")), resources(remove("a")), items(insert("a", whole(1)))} {
			checkApply(t, name, d, a, api.Data{}, x.want)
		}
		checkApply(t, name+", and actions", d, items(api.Action{}), api.Data{}, api.ErrConf)
		checkApply(t, name+", and actions on resources", d, resources(remove("\xff")), api.Data{}, api.ErrConf)
	}
}

// TestP142ApplyMost has lists that come past MaxParts, the first one, the last one.
func TestP142ApplyMost(t *testing.T) {
	full, less, x := numbered(api.MaxParts), numbered(api.MaxParts-1), text("x")
	one := insert("a", x)
	for name, lists := range map[string][][]api.Pair{"the first": {full, nil, less}, "the last": {nil, less, full}, "between": {less, full, nil}, "all": {full, full, full}} {
		d := data(api.SignalLog, lists, [][]api.Pair{nil})
		checkApply(t, "items, past "+name, d, items(one), api.Data{}, api.ErrMany)
		checkApply(t, "items, behind a group, past "+name, data(api.SignalLog, [][]api.Pair{nil}, lists), items(one), api.Data{}, api.ErrMany)
		checkApply(t, "items, and past, and back, "+name, d, items(one, remove("a")), behind(d, items(remove("a"))), api.OK)
		checkApply(t, "resources, items being full", d, resources(one), d, api.OK)
		checkApply(t, "items without one more", d, items(remove("k0"), one), behind(d, items(remove("k0"), one)), api.OK)
		d = data(api.SignalLog, [][]api.Pair{nil}, nil, [][]api.Pair{full})
		for i, l := range lists {
			d.Groups[i].Resource = l
		}
		checkApply(t, "resources, past "+name, d, resources(one), api.Data{}, api.ErrMany)
		checkApply(t, "resources, and past, and back, "+name, d, resources(one, remove("a")), behind(d, resources(remove("a"))), api.OK)
		checkApply(t, "items, resources being full", d, items(upsert("k0", x)), behind(d, items(upsert("k0", x))), api.OK)
	}
	d := data(api.SignalLog, [][]api.Pair{less, less, nil})
	checkApply(t, "items to full", d, items(one), behind(d, items(one)), api.OK)
}

// TestP142ApplyGreat has as many items, pairs and actions as may be.
func TestP142ApplyGreat(t *testing.T) {
	d := data(api.SignalTrace, slices.Repeat([][]api.Pair{numbered(api.MaxParts)}, api.MaxItems))
	a := items(slices.Repeat([]api.Action{upsert("k255", text("x")), hash("k254")}, api.MaxParts/2)...)
	got, why := attrs.Apply(d, a)
	last := got.Groups[0].Items[api.MaxItems-1].Attrs
	if pdata.Items(got) != api.MaxItems || why != api.OK || !same(last, model(d.Groups[0].Items[0].Attrs, a.Actions)) {
		t.Errorf("Apply: %d items, error %d", pdata.Items(got), why)
	}
}

func TestP144Right(t *testing.T) {
	r := rand.New(rand.NewPCG(14, 4))
	for range 2000 {
		d, a := someData(r), api.Attrs{Resource: r.IntN(2) == 0, Actions: someActions(r, 8)}
		checkApply(t, "any data", d, a, behind(d, a), api.OK)
		got, _ := attrs.Apply(d, a)
		if why := pdata.Check(got); why != api.OK || pdata.Items(got) != pdata.Items(d) {
			t.Errorf("what Apply answers: error %d, %d items of %d", why, pdata.Items(got), pdata.Items(d))
		}
	}
}

func TestP145OneByOne(t *testing.T) {
	r := rand.New(rand.NewPCG(14, 5))
	for range 2000 {
		first, second := someActions(r, 6), someActions(r, 6)
		both := slices.Concat(first, second)
		l := somePairs(r)
		once, _ := attrs.Pairs(l, items(first...))
		twice, why := attrs.Pairs(once, items(second...))
		check(t, "Pairs, one by one", twice, why, model(l, both), api.OK)
		checkPairs(t, "both together", l, items(both...), twice, api.OK)
		d, on := someData(r), r.IntN(2) == 0
		got, _ := attrs.Apply(d, api.Attrs{Resource: on, Actions: first})
		got, why = attrs.Apply(got, api.Attrs{Resource: on, Actions: second})
		check(t, "Apply, one by one", got, why, behind(d, api.Attrs{Resource: on, Actions: both}), api.OK)
		checkApply(t, "both together", d, api.Attrs{Resource: on, Actions: both}, got, api.OK)
	}
}

func TestP146There(t *testing.T) {
	r := rand.New(rand.NewPCG(14, 6))
	for range 2000 {
		l, k, v := somePairs(r), someKey(r), someValue(r, 2)
		ahead := someActions(r, 4)
		put, why := attrs.Pairs(l, items(append(slices.Clone(ahead), upsert(k, v))...))
		got, is := value.Get(put, k)
		if why != api.OK || !is || !same(got, v) {
			t.Errorf("behind ActionUpsert: %s, %v, error %d, want %s", brief(got), is, why, brief(v))
		}
		left, why := attrs.Pairs(l, items(append(slices.Clone(ahead), remove(k))...))
		if _, is := value.Get(left, k); is || why != api.OK {
			t.Errorf("behind ActionDelete: %v, error %d", is, why)
		}
	}
}
