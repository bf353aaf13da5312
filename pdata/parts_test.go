package pdata_test

import (
	"math"
	"math/rand/v2"
	"slices"
	"strconv"
	"testing"

	"penstock/api"
	"penstock/pdata"
)

// wrongData is data that are not right, and why: where several things are wrong the first one.
func wrongData() map[api.Errno]api.Data {
	return map[api.Errno]api.Data{
		api.ErrType:  data(api.SignalNone, group(long)),
		api.ErrMany:  data(api.SignalLog, group(long), group("", many(api.SignalLog, api.MaxItems+1)...)),
		api.ErrLong:  data(api.SignalLog, group("", aLog("")), group(long), group(wrong)),
		api.ErrUtf:   data(api.SignalLog, group("", aLog(wrong), aLog(long))),
		api.ErrRange: data(api.SignalLog, group("", api.Item{Kind: 25, Unit: "u"})),
		api.ErrState: data(api.SignalLog, api.Group{Attrs: pairs(pair("", whole(1)), pair("", whole(1)))}),
		api.ErrDepth: data(api.SignalLog, group("", api.Item{Body: nested(api.MaxDepth + 1)})),
	}
}

func checkSplit(t *testing.T, d api.Data, n int, wantFirst, wantOthers api.Data, want api.Errno) {
	t.Helper()
	first, others, why := pdata.Split(d, n)
	name := "Split of " + strconv.Itoa(pdata.Items(d)) + " items at " + strconv.Itoa(n)
	checkErr(t, name, why, want)
	checkData(t, name+", the first", first, wantFirst)
	checkData(t, name+", the others", others, wantOthers)
}

func TestP32Split(t *testing.T) {
	d := logs("a:1 2", "b:3 4 5")
	none := data(api.SignalLog)
	checkSplit(t, d, 0, none, d, api.OK)
	checkSplit(t, d, 1, logs("a:1"), logs("a:2", "b:3 4 5"), api.OK)
	checkSplit(t, d, 2, logs("a:1 2"), logs("b:3 4 5"), api.OK)
	checkSplit(t, d, 3, logs("a:1 2", "b:3"), logs("b:4 5"), api.OK)
	checkSplit(t, d, 4, logs("a:1 2", "b:3 4"), logs("b:5"), api.OK)
	for _, n := range []int{5, 6, 1 << 40, math.MaxInt} {
		checkSplit(t, d, n, d, none, api.OK)
	}
	checkSplit(t, none, 0, none, none, api.OK)
	checkSplit(t, none, 1, none, none, api.OK)
	empty := logs("x:", "a:1", "y:", "a:2", ":", "b:3", "z:")
	checkSplit(t, empty, 0, none, logs("a:1", "a:2", "b:3"), api.OK)
	checkSplit(t, empty, 1, logs("a:1"), logs("a:2", "b:3"), api.OK)
	checkSplit(t, empty, 2, logs("a:1", "a:2"), logs("b:3"), api.OK)
	checkSplit(t, empty, 3, logs("a:1", "a:2", "b:3"), none, api.OK)
	checkSplit(t, logs("a:", "b:"), 1, none, none, api.OK)
}

// TestP32SplitKeeps has what stands about a group stand about both of its halves, in all signals.
func TestP32SplitKeeps(t *testing.T) {
	for _, s := range signals() {
		d := full(s)
		for n := range pdata.Items(d) + 1 {
			first, others := data(s), data(s)
			left := n
			for _, g := range d.Groups {
				a, b := g, g
				cut := min(left, len(g.Items))
				a.Items, b.Items = g.Items[:cut], g.Items[cut:]
				left -= cut
				if len(a.Items) > 0 {
					first.Groups = append(first.Groups, a)
				}
				if len(b.Items) > 0 {
					others.Groups = append(others.Groups, b)
				}
			}
			checkSplit(t, d, n, first, others, api.OK)
		}
	}
}

func TestP32SplitErrors(t *testing.T) {
	for why, d := range wrongData() {
		for _, n := range []int{-1, 0, 1, 2} {
			checkSplit(t, d, n, api.Data{}, api.Data{}, why)
		}
	}
	for _, n := range []int{-1, -2, math.MinInt} {
		checkSplit(t, logs("a:1"), n, api.Data{}, api.Data{}, api.ErrRange)
		checkSplit(t, data(api.SignalTrace), n, api.Data{}, api.Data{}, api.ErrRange)
	}
}

func checkMerge(t *testing.T, name string, a, b, wantData api.Data, want api.Errno) {
	t.Helper()
	d, why := pdata.Merge(a, b)
	checkErr(t, "Merge of "+name, why, want)
	checkData(t, "Merge of "+name, d, wantData)
}

func TestP32Merge(t *testing.T) {
	for name, x := range map[string]struct{ a, b, want api.Data }{
		"nothing":               {logs(), logs(), logs()},
		"nothing and some":      {logs(), logs("a:1 2", "b:3"), logs("a:1 2", "b:3")},
		"some and nothing":      {logs("a:1 2", "b:3"), logs(), logs("a:1 2", "b:3")},
		"groups that are alike": {logs("a:1"), logs("a:2 3"), logs("a:1 2 3")},
		"others":                {logs("a:1"), logs("b:2"), logs("a:1", "b:2")},
		"both":                  {logs("a:1", "b:2"), logs("c:3", "b:4", "a:5"), logs("a:1 5", "b:2 4", "c:3")},
		"two alike in a":        {logs("a:1", "b:2", "a:3"), logs("a:4"), logs("a:1 4", "b:2", "a:3")},
		"two alike in b":        {logs("a:1"), logs("b:2", "c:3", "b:4"), logs("a:1", "b:2 4", "c:3")},
		"empty groups of a":     {logs("a:", "b:1", "a:"), logs("a:2"), logs("a:2", "b:1", "a:")},
		"empty groups of b":     {logs("a:1"), logs("b:", "a:", "b:2", "c:"), logs("a:1", "b:2", "c:")},
		"itself":                {logs("a:1", "b:2"), logs("a:1", "b:2"), logs("a:1 1", "b:2 2")},
	} {
		checkMerge(t, name, x.a, x.b, x.want, api.OK)
	}
}

// TestP32Alike has groups that differ in one thing alone: they are not put together.
func TestP32Alike(t *testing.T) {
	float := func(f float64) []api.Pair { return pairs(pair("f", api.Value{Kind: api.KindFloat, F: f})) }
	nan := func(n uint64) []api.Pair { return float(math.Float64frombits(0x7ff8000000000000 + n)) }
	x, y := aLog("x"), aLog("y")
	l := []api.Group{
		{},
		{Scope: "a"},
		{Version: "a"},
		{Scope: "a", Version: "a"},
		{Resource: pairs(pair("a", whole(1)))},
		{Attrs: pairs(pair("a", whole(1)))},
		{Resource: pairs(pair("a", whole(2)))},
		{Resource: pairs(pair("a", whole(1)), pair("b", whole(2)))},
		{Resource: pairs(pair("b", whole(2)), pair("a", whole(1)))},
		{Resource: float(0)},
		{Resource: float(minus)},
		{Resource: float(1)},
		{Resource: pairs(pair("f", whole(1)))},
		{Attrs: nan(1)},
		{Attrs: nan(2)},
	}
	for i, g := range l {
		for j, h := range l {
			g.Items, h.Items = []api.Item{x}, []api.Item{y}
			want := data(api.SignalLog, g, h)
			if i == j {
				want.Groups = []api.Group{g}
				want.Groups[0].Items = []api.Item{x, y}
			}
			checkMerge(t, "groups "+strconv.Itoa(i)+" and "+strconv.Itoa(j), data(api.SignalLog, g), data(api.SignalLog, twin(h)), want, api.OK)
		}
	}
}

func TestP32MergeLimits(t *testing.T) {
	for _, s := range signals() {
		full, half := groups(s, api.MaxGroups, 1), groups(s, api.MaxGroups/2, 1)
		fresh := group("fresh", one(s, "x"))
		both := slices.Clone(full)
		both[3].Items = append(slices.Clone(both[3].Items), one(s, "x"))
		checkMerge(t, "MaxGroups", data(s, full...), data(s, group("3", one(s, "x"))), data(s, both...), api.OK)
		checkMerge(t, "MaxGroups - 1 and another", data(s, full[1:]...), data(s, fresh), data(s, append(slices.Clone(full[1:]), fresh)...), api.OK)
		checkMerge(t, "MaxGroups and another", data(s, full...), data(s, fresh), api.Data{}, api.ErrMany)
		checkMerge(t, "MaxGroups and an empty one", data(s, full...), data(s, group("fresh")), api.Data{}, api.ErrMany)
		checkMerge(t, "another and MaxGroups", data(s, fresh), data(s, full...), api.Data{}, api.ErrMany)
		checkMerge(t, "half and half alike", data(s, half...), data(s, groups(s, api.MaxGroups/2, 0)...), data(s, half...), api.OK)
		alike := data(s, slices.Repeat([]api.Group{group("")}, api.MaxGroups)...)
		checkMerge(t, "alike groups in b", data(s, full[1:]...), alike, data(s, append(slices.Clone(full[1:]), group(""))...), api.OK)
		checkMerge(t, "alike groups in a", alike, alike, alike, api.OK)
		l := many(s, api.MaxItems)
		checkMerge(t, "MaxItems", data(s, group("a", l[:1000]...)), data(s, group("a", l[1000:]...)), data(s, group("a", l...)), api.OK)
		checkMerge(t, "MaxItems and one", data(s, group("a", l...)), data(s, group("a", l[0])), api.Data{}, api.ErrMany)
		checkMerge(t, "MaxItems twice", data(s, group("a", l...)), data(s, group("b", l...)), api.Data{}, api.ErrMany)
		checkMerge(t, "MaxItems and an empty group", data(s, group("a", l...)), data(s, group("a")), data(s, group("a", l...)), api.OK)
	}
}

func TestP32MergeErrors(t *testing.T) {
	right := logs("a:1")
	for why, d := range wrongData() {
		checkMerge(t, "a wrong one", d, right, api.Data{}, why)
		checkMerge(t, "a right and a wrong one", right, d, api.Data{}, why)
		checkMerge(t, "one of another signal and a wrong one", data(api.SignalTrace), d, api.Data{}, why)
		for whyOther, other := range wrongData() {
			checkMerge(t, "two wrong ones "+strconv.Itoa(int(whyOther)), d, other, api.Data{}, why)
		}
	}
	for _, s := range signals() {
		for _, other := range signals() {
			if s == other {
				continue
			}
			checkMerge(t, "two signals", data(s), data(other), api.Data{}, api.ErrType)
			checkMerge(t, "two signals with items", data(s, group("", one(s, "x"))), data(other, group("", one(other, "x"))), api.Data{}, api.ErrType)
			checkMerge(t, "two signals, too many items", data(s, group("", many(s, api.MaxItems)...)), data(other, group("", one(other, "x"))), api.Data{}, api.ErrType)
		}
	}
}

func checkTidy(t *testing.T, d, wantData api.Data, want api.Errno) {
	t.Helper()
	got, why := pdata.Tidy(d)
	checkErr(t, "Tidy", why, want)
	checkData(t, "Tidy", got, wantData)
}

func TestP32Tidy(t *testing.T) {
	checkTidy(t, logs(), logs(), api.OK)
	checkTidy(t, logs("a:1", "b:2 3"), logs("a:1", "b:2 3"), api.OK)
	checkTidy(t, logs("a:", "b:", ":"), logs(), api.OK)
	checkTidy(t, logs("a:1", "b:2", "a:3", "c:4", "b:5 6"), logs("a:1 3", "b:2 5 6", "c:4"), api.OK)
	checkTidy(t, logs("x:", "b:1", "y:", "b:2", "b:"), logs("b:1 2"), api.OK)
	// what is Merge's: the first one that is alike has the place, even without items
	checkTidy(t, logs("a:", "b:1", "a:2"), logs("a:2", "b:1"), api.OK)
	for _, s := range signals() {
		checkTidy(t, data(s, slices.Repeat([]api.Group{group("a", one(s, "x"))}, api.MaxGroups)...), data(s, group("a", slices.Repeat([]api.Item{one(s, "x")}, api.MaxGroups)...)), api.OK)
	}
	for why, d := range wrongData() {
		checkTidy(t, d, api.Data{}, why)
	}
}

func checkKeep(t *testing.T, d api.Data, which []bool, wantData api.Data, want api.Errno) {
	t.Helper()
	got, why := pdata.Keep(d, which)
	checkErr(t, "Keep", why, want)
	checkData(t, "Keep", got, wantData)
}

func TestP33Keep(t *testing.T) {
	const is, no = true, false
	d := logs("x:", "a:1 2", "b:3", "y:", "a:4 5")
	checkKeep(t, d, nil, logs(), api.OK)
	checkKeep(t, d, []bool{}, logs(), api.OK)
	checkKeep(t, d, []bool{no, no, no, no, no}, logs(), api.OK)
	checkKeep(t, d, []bool{is, is, is, is, is}, logs("a:1 2", "b:3", "a:4 5"), api.OK)
	checkKeep(t, d, []bool{is, is, is, is, is, is, no, is}, logs("a:1 2", "b:3", "a:4 5"), api.OK)
	checkKeep(t, d, []bool{is}, logs("a:1"), api.OK)
	checkKeep(t, d, []bool{no, is, no, is}, logs("a:2", "a:4"), api.OK)
	checkKeep(t, d, []bool{no, no, is, no, is}, logs("b:3", "a:5"), api.OK)
	checkKeep(t, logs(), []bool{is, is}, logs(), api.OK)
	for why, wrong := range wrongData() {
		for _, which := range [][]bool{nil, {is}, make([]bool, 2000)} {
			checkKeep(t, wrong, which, api.Data{}, why)
		}
	}
	for _, s := range signals() {
		f := full(s)
		which := slices.Repeat([]bool{is}, pdata.Items(f))
		checkKeep(t, f, which, f, api.OK)
		want := data(s, f.Groups[1])
		clear(which[:len(f.Groups[0].Items)])
		clear(which[len(f.Groups[0].Items)+len(f.Groups[1].Items):])
		checkKeep(t, f, which, want, api.OK)
	}
}

// all is the items of d, one behind the other.
func all(d api.Data) []api.Item {
	var out []api.Item
	for _, g := range d.Groups {
		out = append(out, g.Items...)
	}
	return out
}

// of is the items of groups of d that have this scope and resource.
func of(d api.Data, g api.Group) []api.Item {
	var out []api.Item
	for _, h := range d.Groups {
		if h.Scope == g.Scope && same(h.Resource, g.Resource) {
			out = append(out, h.Items...)
		}
	}
	return out
}

func TestP35NothingIsLost(t *testing.T) {
	r := rand.New(rand.NewPCG(3, 5))
	for range 1000 {
		s := signals()[r.IntN(3)]
		a, b := some(r, s), some(r, s)
		first, others, why := pdata.Split(a, r.IntN(12))
		checkErr(t, "Split", why, api.OK)
		if !same(append(all(first), all(others)...), all(a)) {
			t.Errorf("Split of %v: %v and %v", told(a), told(first), told(others))
		}
		both, why := pdata.Merge(a, b)
		checkErr(t, "Merge", why, api.OK)
		if pdata.Items(both) != pdata.Items(a)+pdata.Items(b) {
			t.Errorf("Merge of %v and %v: %v", told(a), told(b), told(both))
		}
		tidy, _ := pdata.Tidy(a)
		both, why = pdata.Merge(tidy, b)
		checkErr(t, "Merge of Tidy", why, api.OK)
		for _, g := range both.Groups {
			if !same(of(both, g), append(of(a, g), of(b, g)...)) {
				t.Errorf("Merge of %v and %v: %v", told(tidy), told(b), told(both))
			}
		}
		checkErr(t, "Check of Split, Merge", max(pdata.Check(first), pdata.Check(others), pdata.Check(both)), api.OK)
	}
}

func TestP36Tidy(t *testing.T) {
	r := rand.New(rand.NewPCG(3, 6))
	for range 1000 {
		d := some(r, signals()[r.IntN(3)])
		tidy, why := pdata.Tidy(d)
		checkErr(t, "Tidy", why, api.OK)
		for i, g := range tidy.Groups {
			for _, h := range tidy.Groups[:i] {
				if g.Scope == h.Scope && same(g.Resource, h.Resource) {
					t.Errorf("Tidy of %v: groups are alike: %v", told(d), told(tidy))
				}
			}
			if len(g.Items) == 0 || !same(g.Items, of(d, g)) {
				t.Errorf("Tidy of %v: %v", told(d), told(tidy))
			}
		}
		if pdata.Items(tidy) != pdata.Items(d) {
			t.Errorf("Tidy of %v: %v", told(d), told(tidy))
		}
		again, why := pdata.Tidy(tidy)
		checkErr(t, "Tidy of Tidy", why, api.OK)
		checkData(t, "Tidy of Tidy", again, tidy)
	}
}

func TestP37Kept(t *testing.T) {
	r := rand.New(rand.NewPCG(3, 7))
	for range 1000 {
		d := some(r, signals()[r.IntN(3)])
		which := make([]bool, r.IntN(14))
		var want []api.Item
		for i := range which {
			which[i] = r.IntN(2) == 0
			if which[i] && i < len(all(d)) {
				want = append(want, all(d)[i])
			}
		}
		kept, why := pdata.Keep(d, which)
		checkErr(t, "Keep", why, api.OK)
		if !same(all(kept), want) || slices.ContainsFunc(kept.Groups, func(g api.Group) bool { return len(g.Items) == 0 }) {
			t.Errorf("Keep of %v, %v: %v", told(d), which, told(kept))
		}
		whole, why := pdata.Keep(d, slices.Repeat([]bool{true}, pdata.Items(d)))
		checkErr(t, "Keep of all", why, api.OK)
		d.Groups = slices.DeleteFunc(d.Groups, func(g api.Group) bool { return len(g.Items) == 0 })
		checkData(t, "Keep of all", whole, d)
	}
}
