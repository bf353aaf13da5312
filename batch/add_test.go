package batch_test

import (
	"math"
	"slices"
	"strconv"
	"strings"
	"testing"

	"penstock/api"
	"penstock/batch"
)

const latest = math.MaxUint64

// wrongRules are not right.
func wrongRules() []api.BatchRules {
	return []api.BatchRules{{}, rules(0, 1, 0), rules(1, 0, 0), rules(0, 0, 5), rules(-1, 1, 0), rules(-1, -1, 0), rules(1, -1, 0), rules(2, 1, 0), rules(1024, 1023, 0), rules(1, 1025, 0), rules(1025, 1025, 0), rules(1025, 1024, 0), rules(math.MinInt, math.MaxInt, 0), rules(math.MaxInt, math.MaxInt, 0), rules(1, math.MaxInt, 0), rules(math.MinInt, 1, 0), rules(8, math.MinInt, 0)}
}

// wrongBatches are not right by rules of Size 4.
func wrongBatches() map[string]api.Batch {
	twice := api.Item{Attrs: []api.Pair{{Key: "a"}, {Key: "a"}}}
	l := map[string]api.Batch{
		"a group without items":        held(1, "a:"),
		"another one without items":    held(1, "a:1", "b:"),
		"groups without items":         held(1, "a:", "b:"),
		"an empty one ahead":           held(0, "a:", "b:1"),
		"groups that are alike":        held(1, "a:1", "a:2"),
		"groups that are alike, apart": held(1, "a:1", "b:2", "a:3"),
		"as many items as go":          held(1, "a:1 2 3 4"),
		"as many of two groups":        held(1, "a:1 2", "b:3 4"),
		"more items":                   held(1, "a:1 2 3 4 5"),
		"many items":                   held(1, "a:"+numbered(0, api.MaxItems)),
		"too many items":               held(1, "a:"+numbered(0, api.MaxItems+1)),
		"too many groups":              held(1, scopes(0, api.MaxGroups+1)...),
		"no signal":                    {Held: data(api.SignalNone, "a:1")},
		"no signal, an empty group":    {Held: data(api.SignalNone, "a:")},
		"a signal beyond":              {Held: data(api.SignalCount, "a:1")},
		"another signal":               {Held: api.Data{Signal: api.SignalTrace, Groups: logs("a:1").Groups}},
		"a scope of no UTF-8":          held(1, "\xff:1"),
		"a long name":                  held(1, "a:"+strings.Repeat("x", api.MaxText+1)),
		"an item's key twice":          {Held: api.Data{Signal: api.SignalLog, Groups: []api.Group{{Items: []api.Item{twice}}}}},
	}
	alike := held(1, "a:1", "a:2")
	for i := range alike.Held.Groups {
		alike.Held.Groups[i].Resource = []api.Pair{{Key: "f", Value: api.Value{Kind: api.KindFloat, F: math.NaN()}}}
	}
	l["groups alike by their bits"] = alike
	return l
}

func checkWhy(t *testing.T, name string, b api.Batch, r api.BatchRules, want api.Errno) {
	t.Helper()
	if why := batch.Check(b, r); why != want {
		t.Errorf("Check of %s by %+v: error %d, want %d", name, r, why, want)
	}
}

func TestP162Check(t *testing.T) {
	for _, r := range []api.BatchRules{rules(1, 1, 0), rules(1, 1024, latest), rules(1024, 1024, 1), rules(8, 8, 200), rules(8, 1024, 200), rules(1023, 1024, 5)} {
		checkWhy(t, "nothing", api.Batch{}, r, api.OK)
		checkWhy(t, "nothing, since", api.Batch{Since: 7}, r, api.OK)
		checkWhy(t, "no groups of a signal", api.Batch{Held: api.Data{Signal: api.SignalLog}, Since: latest}, r, api.OK)
		checkWhy(t, "no groups of no signal", api.Batch{Held: api.Data{Signal: 99, Groups: []api.Group{}}}, r, api.OK)
	}
	checkWhy(t, "an item", held(0, "a:1"), rules(2, 2, 0), api.OK)
	checkWhy(t, "three", held(latest, "a:1 2", "b:3"), rules(4, 9, 0), api.OK)
	checkWhy(t, "as many items as may be", held(1, "a:"+numbered(0, 1023)), rules(1024, 1024, 0), api.OK)
	checkWhy(t, "as many groups as may be", held(1, scopes(0, 64)...), rules(65, 65, 0), api.OK)
	checkWhy(t, "one more than may be by the rules", held(1, scopes(0, 64)...), rules(64, 64, 0), api.ErrState)
	for _, s := range signals() {
		checkWhy(t, "a signal", api.Batch{Held: data(s, "a:1", "b:2 3")}, rules(4, 4, 1), api.OK)
		checkWhy(t, "a signal, too many", api.Batch{Held: data(s, "a:1", "b:2 3")}, rules(3, 4, 1), api.ErrState)
	}
	nearly := held(1, "a:1", "a:2")
	nearly.Held.Groups[1].Resource = []api.Pair{{Key: "f", Value: api.Value{Kind: api.KindFloat, F: math.Copysign(0, -1)}}}
	nearly.Held.Groups[0].Resource = []api.Pair{{Key: "f", Value: api.Value{Kind: api.KindFloat}}}
	checkWhy(t, "groups alike but for the bits of 0", nearly, rules(4, 4, 0), api.OK)
}

// TestP162CheckWrong has what is not right with each call.
func TestP162CheckWrong(t *testing.T) {
	r, d := rules(4, 6, 10), logs("a:1")
	all := func(name string, b api.Batch, r api.BatchRules, d api.Data, want api.Errno) {
		t.Helper()
		checkWhy(t, name, b, r, want)
		check(t, "Add to "+name, add(b, r, d, 5), refused(want))
		check(t, "Tick of "+name, tick(b, r, latest), refused(want))
		check(t, "Flush of "+name, flush(b, r), refused(want))
	}
	for _, bad := range wrongRules() {
		all("wrong rules", api.Batch{}, bad, d, api.ErrRange)
		all("wrong rules, a batch", held(1, "a:1"), bad, d, api.ErrRange)
		all("wrong rules, no data", held(1, "a:1"), bad, api.Data{}, api.ErrRange)
		all("wrong rules, another signal", held(1, "a:1"), bad, data(api.SignalTrace, "a:1"), api.ErrRange)
		for name, b := range wrongBatches() {
			all("wrong rules, "+name, b, bad, d, api.ErrRange)
		}
	}
	for name, b := range wrongBatches() {
		all(name, b, r, d, api.ErrState)
		all(name+", no data", b, r, api.Data{}, api.ErrState)
		all(name+", another signal", b, r, data(api.SignalTrace, "a:1"), api.ErrState)
	}
}

func TestP162AddRefused(t *testing.T) {
	for _, b := range []api.Batch{{}, held(1, "a:1"), {Held: api.Data{Signal: api.SignalMetric}, Since: 3}} {
		for name, x := range map[string]struct {
			d    api.Data
			want api.Errno
		}{
			"nothing":             {api.Data{}, api.ErrType},
			"a signal beyond":     {data(api.SignalCount, "a:1"), api.ErrType},
			"too many items":      {logs("a:" + numbered(0, api.MaxItems+1)), api.ErrMany},
			"too many groups":     {logs(scopes(0, api.MaxGroups+1)...), api.ErrMany},
			"too many, alike":     {logs(slices.Repeat([]string{"a:1"}, api.MaxGroups+1)...), api.ErrMany},
			"too many, empty":     {logs(slices.Repeat([]string{"a:"}, api.MaxGroups+1)...), api.ErrMany},
			"a scope of no UTF-8": {logs("a:1", "\xff:1"), api.ErrUtf},
			"a long name":         {logs("a:" + strings.Repeat("x", api.MaxText+1)), api.ErrLong},
			"what is of another":  {api.Data{Signal: api.SignalTrace, Groups: logs("a:1").Groups}, api.ErrRange}, // ahead of ErrType
			"a metric of a log":   {api.Data{Signal: api.SignalLog, Groups: data(api.SignalMetric, "a:1").Groups}, api.ErrType},
		} {
			check(t, "Add of "+name, add(b, rules(4, 6, 10), x.d, 5), refused(x.want))
		}
	}
	for _, s := range []api.Signal{api.SignalTrace, api.SignalMetric} {
		for _, groups := range [][]string{{"a:1"}, {"a:1", "b:2"}, {}, {"a:"}, {"a:" + numbered(0, api.MaxItems)}, scopes(0, api.MaxGroups)} {
			check(t, "Add of another signal", add(held(1, "a:1"), rules(4, 6, 10), data(s, groups...), 5), refused(api.ErrType))
		}
		check(t, "Add of another signal to nothing", add(api.Batch{}, rules(4, 6, 10), data(s, "a:1"), 5), stays(api.Batch{Held: data(s, "a:1"), Since: 5}))
		check(t, "Add of another signal to what has a signal alone", add(api.Batch{Held: api.Data{Signal: api.SignalLog}, Since: 1}, rules(4, 6, 10), data(s, "a:1"), 5), stays(api.Batch{Held: data(s, "a:1"), Since: 5}))
	}
}

func TestP162Add(t *testing.T) {
	r := rules(3, 4, 10)
	for name, x := range map[string]struct {
		b    api.Batch
		d    api.Data
		want answer
	}{
		"one to nothing":            {api.Batch{}, logs("a:1"), stays(held(5, "a:1"))},
		"two to nothing":            {api.Batch{}, logs("a:1", "b:2"), stays(held(5, "a:1", "b:2"))},
		"two to nothing, since":     {api.Batch{Since: 2}, logs("a:1", "b:2"), stays(held(5, "a:1", "b:2"))},
		"three to nothing":          {api.Batch{}, logs("a:1 2 3"), goes(api.Batch{}, logs("a:1 2 3"))},
		"four to nothing":           {api.Batch{}, logs("a:1", "b:2 3", "c:4"), goes(api.Batch{}, logs("a:1", "b:2 3", "c:4"))},
		"five to nothing":           {api.Batch{}, logs("a:1 2 3 4 5"), goes(held(5, "a:5"), logs("a:1 2 3 4"))},
		"six to nothing":            {api.Batch{}, logs("a:1 2 3 4 5 6"), goes(held(5, "a:5 6"), logs("a:1 2 3 4"))},
		"seven to nothing":          {api.Batch{}, logs("a:1 2 3 4 5 6 7"), goes(api.Batch{}, logs("a:1 2 3 4"), logs("a:5 6 7"))},
		"eight to nothing":          {api.Batch{}, logs("a:1 2 3 4 5 6 7 8"), goes(api.Batch{}, logs("a:1 2 3 4"), logs("a:5 6 7 8"))},
		"nine to nothing":           {api.Batch{}, logs("a:1 2 3", "b:4 5 6 7 8 9"), goes(held(5, "b:9"), logs("a:1 2 3", "b:4"), logs("b:5 6 7 8"))},
		"one to one":                {held(2, "a:1"), logs("a:2"), stays(held(2, "a:1 2"))},
		"one to one of a group":     {held(2, "a:1"), logs("b:2"), stays(held(2, "a:1", "b:2"))},
		"two to one":                {held(2, "a:1"), logs("a:2", "b:3"), goes(api.Batch{}, logs("a:1 2", "b:3"))},
		"one to two":                {held(2, "a:1", "b:2"), logs("a:3"), goes(api.Batch{}, logs("a:1 3", "b:2"))},
		"four to one":               {held(2, "a:1"), logs("b:2 3", "a:4 5"), goes(held(2, "b:3"), logs("a:1 4 5", "b:2"))},
		"five to two":               {held(2, "a:1", "b:2"), logs("c:3", "b:4 5", "a:6 7"), goes(api.Batch{}, logs("a:1 6 7", "b:2"), logs("b:4 5", "c:3"))},
		"groups that are alike":     {api.Batch{}, logs("a:1", "b:2", "a:3 4", "b:5"), goes(held(5, "b:5"), logs("a:1 3 4", "b:2"))},
		"groups without items":      {api.Batch{}, logs("a:", "b:1", "c:", "a:2"), stays(held(5, "a:2", "b:1"))},
		"no items to nothing":       {api.Batch{}, logs(), stays(api.Batch{})},
		"no items to nothing since": {api.Batch{Since: 9}, logs(), stays(api.Batch{})},
		"no items to a signal":      {api.Batch{Held: logs(), Since: 9}, logs("a:"), stays(api.Batch{})},
		"no items to no signal":     {api.Batch{Held: data(77), Since: 9}, logs(), stays(api.Batch{})},
		"empty groups to nothing":   {api.Batch{}, logs("a:", "b:"), stays(api.Batch{})},
		"no items to one":           {held(2, "a:1"), logs(), stays(held(2, "a:1"))},
		"empty groups to two":       {held(2, "a:1", "b:2"), logs("c:", "a:", "a:"), stays(held(2, "a:1", "b:2"))},
	} {
		check(t, name, add(x.b, r, x.d, 5), x.want)
	}
}

// TestP162AddExamples are the document's.
func TestP162AddExamples(t *testing.T) {
	check(t, "the chapter's", add(api.Batch{}, rules(2, 3, 9), logs("a:1 2 3 4 5"), 1), goes(api.Batch{}, logs("a:1 2 3"), logs("a:4 5")))
	check(t, "the document's ninth", add(api.Batch{}, rules(3, 4, 9), logs("a:1 2 3 4 5 6"), 1), goes(held(1, "a:5 6"), logs("a:1 2 3 4")))
}

// TestP162AddRules has rules at their edges.
func TestP162AddRules(t *testing.T) {
	var each []api.Data
	for i := range api.MaxItems {
		each = append(each, logs("a:"+strconv.Itoa(i)))
	}
	all := logs("a:" + numbered(0, api.MaxItems))
	check(t, "one by one", add(api.Batch{}, rules(1, 1, 0), all, 5), goes(api.Batch{}, each...))
	check(t, "all at once", add(api.Batch{}, rules(1, 1024, 0), all, 5), goes(api.Batch{}, all))
	check(t, "all at once, no sooner", add(api.Batch{}, rules(1024, 1024, 0), all, 5), goes(api.Batch{}, all))
	check(t, "all but one", add(api.Batch{}, rules(1024, 1024, 0), logs("a:"+numbered(1, 1024)), 5), stays(held(5, "a:"+numbered(1, 1024))))
	check(t, "all but one, and one", add(held(2, "a:"+numbered(0, 1023)), rules(1024, 1024, 0), logs("a:1023"), 5), goes(api.Batch{}, all))
	check(t, "1023 at most", add(api.Batch{}, rules(1, 1023, 0), all, 5), goes(api.Batch{}, logs("a:"+numbered(0, 1023)), logs("a:1023")))
	check(t, "1023 at most, two at least", add(api.Batch{}, rules(2, 1023, 0), all, 5), goes(held(5, "a:1023"), logs("a:"+numbered(0, 1023))))
	check(t, "one of each group", add(api.Batch{}, rules(1, 1, 0), logs("a:1 2", "b:3", "a:4"), 5), goes(api.Batch{}, logs("a:1"), logs("a:2"), logs("a:4"), logs("b:3")))
	check(t, "one", add(api.Batch{}, rules(1, 1, 0), logs("a:1"), 5), goes(api.Batch{}, logs("a:1")))
	check(t, "none", add(api.Batch{}, rules(1, 1, 0), logs(), 5), stays(api.Batch{}))
}

// TestP162AddTooMany has items, or groups, that are too many together, and just not.
func TestP162AddTooMany(t *testing.T) {
	great := rules(1024, 1024, 10)
	some := func(n int) string { return "a:" + numbered(0, n) }
	more := func(n int) string { return "a:" + numbered(5000, 5000+n) }
	both := func(n, m int) string { return some(n) + " " + strings.TrimPrefix(more(m), "a:") }
	for name, x := range map[string]struct {
		b    api.Batch
		r    api.BatchRules
		d    api.Data
		want answer
	}{
		"as many items as may be":        {held(2, some(600)), great, logs(more(424)), goes(api.Batch{}, logs(both(600, 424)))},
		"one more":                       {held(2, some(600)), great, logs(more(425)), goes(held(5, more(425)), logs(some(600)))},
		"one more, of another group":     {held(2, some(600)), great, logs("b:" + numbered(0, 425)), goes(held(5, "b:"+numbered(0, 425)), logs(some(600)))},
		"one more than all":              {held(2, some(1)), great, logs(more(1024)), goes(api.Batch{}, logs(some(1)), logs(more(1024)))},
		"both as many as may be":         {held(2, some(1023)), great, logs(more(1024)), goes(api.Batch{}, logs(some(1023)), logs(more(1024)))},
		"one less, and two":              {held(2, some(1023)), great, logs(more(2)), goes(held(5, more(2)), logs(some(1023)))},
		"one less, and none":             {held(2, some(1023)), great, logs("a:", "b:"), stays(held(2, some(1023)))},
		"one more, that goes in parts":   {held(2, some(9)), rules(10, 500, 9), logs(more(1016)), goes(api.Batch{}, logs(some(9)), logs("a:"+numbered(5000, 5500)), logs("a:"+numbered(5500, 6000)), logs("a:"+numbered(6000, 6016)))},
		"one more, of which some stay":   {held(2, some(99)), rules(100, 500, 9), logs(more(1016)), goes(held(5, "a:"+numbered(6000, 6016)), logs(some(99)), logs("a:"+numbered(5000, 5500)), logs("a:"+numbered(5500, 6000)))},
		"as many groups as may be":       {held(2, scopes(0, 40)...), rules(65, 1024, 9), logs(scopes(40, 24)...), stays(held(2, scopes(0, 64)...))},
		"a group more":                   {held(2, scopes(0, 40)...), rules(65, 1024, 9), logs(scopes(40, 25)...), goes(held(5, scopes(40, 25)...), logs(scopes(0, 40)...))},
		"as many, some alike":            {held(2, scopes(0, 40)...), rules(100, 1024, 9), logs(scopes(20, 44)...), stays(held(2, append(append(scopes(0, 20), twofold(20, 20)...), scopes(40, 24)...)...))},
		"a group more, some alike":       {held(2, scopes(0, 40)...), rules(100, 1024, 9), logs(scopes(20, 45)...), goes(held(5, scopes(20, 45)...), logs(scopes(0, 40)...))},
		"all groups, and the same":       {held(2, scopes(0, 64)...), rules(129, 1024, 9), logs(scopes(0, 64)...), stays(held(2, twofold(0, 64)...))},
		"all groups, and empty ones":     {held(2, scopes(0, 64)...), rules(65, 1024, 9), logs("x:", "y:"), stays(held(2, scopes(0, 64)...))},
		"all groups, and all others":     {held(2, scopes(0, 64)...), rules(65, 1024, 9), logs(scopes(64, 64)...), goes(held(5, scopes(64, 64)...), logs(scopes(0, 64)...))},
		"all, and some alike in d":       {held(2, scopes(0, 63)...), rules(100, 1024, 9), logs("x:1", "x:2", "x:3"), stays(held(2, append(scopes(0, 63), "x:1 2 3")...))},
		"all, and two, then too many":    {held(2, scopes(0, 63)...), rules(100, 1024, 9), logs("x:1", "y:2", "x:3"), goes(held(5, "x:1 3", "y:2"), logs(scopes(0, 63)...))},
		"too many groups, and that goes": {held(2, scopes(0, 63)...), rules(64, 64, 9), logs(scopes(100, 64)...), goes(api.Batch{}, logs(scopes(0, 63)...), logs(scopes(100, 64)...))},
	} {
		check(t, name, add(x.b, x.r, x.d, 5), x.want)
	}
}

// twofold are groups of two items of one name.
func twofold(from, n int) []string {
	var l []string
	for _, s := range scopes(from, n) {
		_, name, _ := strings.Cut(s, ":")
		l = append(l, s+" "+name)
	}
	return l
}

// TestP162Since has the times at their edges.
func TestP162Since(t *testing.T) {
	r := rules(3, 4, 10)
	for _, now := range []uint64{0, 1, 1 << 63, latest} {
		check(t, "to nothing", add(api.Batch{}, r, logs("a:1"), now), stays(held(now, "a:1")))
		check(t, "to something", add(held(7, "a:1"), r, logs("a:2"), now), stays(held(7, "a:1 2")))
		check(t, "to something that came then", add(held(now, "a:1"), r, logs("a:2"), 7), stays(held(now, "a:1 2")))
		check(t, "nothing is left", add(held(7, "a:1"), r, logs("a:2 3"), now), goes(api.Batch{}, logs("a:1 2 3")))
		check(t, "what came is left alone", add(held(7, "a:1"), r, logs("a:2 3 4 5"), now), goes(held(7, "a:5"), logs("a:1 2 3 4")))
		check(t, "what was held is left", add(held(7, "a:1", "b:2"), r, logs("a:3 4 5"), now), goes(held(7, "b:2"), logs("a:1 3 4 5")))
		check(t, "of nothing some goes", add(api.Batch{Since: 7}, r, logs("a:1 2 3 4 5"), now), goes(held(now, "a:5"), logs("a:1 2 3 4")))
		check(t, "what was held goes first", add(held(7, scopes(0, 64)...), rules(65, 65, 1), logs("x:1"), now), goes(held(now, "x:1"), logs(scopes(0, 64)...)))
	}
}

// TestP162Signals has each signal.
func TestP162Signals(t *testing.T) {
	for _, s := range signals() {
		x := add(api.Batch{}, rules(2, 2, 1), data(s, "a:1 2", "b:3"), 4)
		check(t, "Add", x, goes(api.Batch{Held: data(s, "b:3"), Since: 4}, data(s, "a:1 2")))
		check(t, "Tick", tick(x.Batch, rules(2, 2, 1), 5), goes(api.Batch{}, data(s, "b:3")))
		check(t, "Flush", flush(x.Batch, rules(2, 2, 1)), goes(api.Batch{}, data(s, "b:3")))
	}
}

// TestP162AddLike has groups of one scope that are not alike, and what is alike by its bits.
func TestP162AddLike(t *testing.T) {
	of := func(f float64, version, name string) api.Group {
		return api.Group{Version: version, Attrs: []api.Pair{{Key: "f", Value: api.Value{Kind: api.KindFloat, F: f}}}, Items: []api.Item{{Name: name}}}
	}
	group := func(l ...api.Group) api.Data { return api.Data{Signal: api.SignalLog, Groups: l} }
	nan := of(math.NaN(), "", "1")
	nan.Items = append(nan.Items, api.Item{Name: "2"})
	check(t, "NaN", add(api.Batch{Held: group(of(math.NaN(), "", "1"))}, rules(9, 9, 1), group(of(math.NaN(), "", "2")), 3), stays(api.Batch{Held: group(nan)}))
	check(t, "the two noughts", add(api.Batch{Held: group(of(0, "", "1"))}, rules(9, 9, 1), group(of(math.Copysign(0, -1), "", "2")), 3), stays(api.Batch{Held: group(of(0, "", "1"), of(math.Copysign(0, -1), "", "2"))}))
	check(t, "versions", add(api.Batch{Held: group(of(0, "1", "1"))}, rules(9, 9, 1), group(of(0, "2", "2")), 3), stays(api.Batch{Held: group(of(0, "1", "1"), of(0, "2", "2"))}))
}

func TestP163Tick(t *testing.T) {
	b, empty := held(100, "a:1", "b:2"), goes(api.Batch{}, logs("a:1", "b:2"))
	for _, x := range []struct {
		since, wait, now uint64
		goes             bool
	}{
		{100, 10, 109, false}, {100, 10, 110, true}, {100, 10, 111, true}, {100, 10, 100, false}, {100, 10, 99, false}, {100, 10, 0, false}, {100, 10, latest, true},
		{100, 0, 100, true}, {100, 0, 99, false}, {100, 0, 0, false}, {100, 1, 100, false}, {100, 1, 101, true},
		{0, 0, 0, true}, {0, 10, 9, false}, {0, 10, 10, true}, {0, latest, latest, true}, {0, latest, latest - 1, false}, {1, latest, latest, false}, {latest, 0, latest, true}, {latest, 1, latest, false}, {latest, 1, 0, false}, {latest, latest, 0, false}, {latest, 0, latest - 1, false}, {latest - 5, 5, latest, true}, {latest - 5, 6, latest, false}, {latest - 5, 10, 4, false}, {1 << 63, 1, 0, false}, {5, latest, 3, false},
	} {
		b.Since = x.since
		want := stays(b)
		if x.goes {
			want = empty
		}
		check(t, "Tick", tick(b, rules(3, 4, x.wait), x.now), want)
		for _, nothing := range []api.Batch{{}, {Since: x.since}, {Held: logs(), Since: x.since}, {Held: data(99), Since: x.since}, {Held: api.Data{Groups: []api.Group{}}, Since: x.since}} {
			check(t, "Tick of nothing", tick(nothing, rules(3, 4, x.wait), x.now), stays(nothing))
		}
	}
}

func TestP163Flush(t *testing.T) {
	r := rules(4, 6, 10)
	check(t, "nothing", flush(api.Batch{}, r), stays(api.Batch{}))
	check(t, "nothing, since", flush(api.Batch{Since: 7}, r), stays(api.Batch{}))
	check(t, "nothing of a signal", flush(api.Batch{Held: logs(), Since: 7}, r), stays(api.Batch{}))
	check(t, "nothing of no signal", flush(api.Batch{Held: data(77)}, r), stays(api.Batch{}))
	check(t, "one", flush(held(7, "a:1"), r), goes(api.Batch{}, logs("a:1")))
	check(t, "three", flush(held(7, "a:1 2", "b:3"), r), goes(api.Batch{}, logs("a:1 2", "b:3")))
	check(t, "many", flush(held(7, "a:"+numbered(0, 1023)), rules(1024, 1024, 0)), goes(api.Batch{}, logs("a:"+numbered(0, 1023))))
	check(t, "as many as go", flush(held(7, "a:1 2 3 4"), r), refused(api.ErrState))
	check(t, "more than go at once", flush(held(7, "a:1 2 3 4 5 6 7"), r), refused(api.ErrState))
}
