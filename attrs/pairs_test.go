package attrs_test

import (
	"math/rand/v2"
	"slices"
	"strings"
	"testing"

	"penstock/api"
	"penstock/attrs"
	"penstock/value"
)

// nested is so many lists, one in another.
func nested(n int) api.Value {
	v := whole(1)
	for range n {
		v = list(v)
	}
	return v
}

// wrong are actions that are not right.
func wrong() map[string]api.Action {
	long := strings.Repeat("x", api.MaxText+1)
	l := map[string]api.Action{
		"no kind":            {},
		"no kind, and a key": {Key: "a"},
		"no kind, and all":   {Key: "a", Value: text("x")},
		"a kind beyond":      {Kind: api.ActionCount, Key: "a"},
		"beyond, with all":   {Kind: api.ActionCount, Key: "a", Value: text("x")},
		"the greatest kind":  {Kind: 255, Key: "a", Value: text("x")},
	}
	for name, do := range map[string]func(string, api.Value) api.Action{"insert": insert, "update": update, "upsert": upsert} {
		for what, v := range map[string]api.Value{
			"nothing": {}, "nothing with a text": {S: "x"}, "no kind": {Kind: api.KindCount}, "the greatest kind": {Kind: 255}, "an int with a text": {Kind: api.KindInt, S: "x"}, "a text with -0": {Kind: api.KindText, F: minus},
			"a long text": text(long), "no UTF-8": text("\xff"), "long bytes": bytes(long), "too many": list(make([]api.Value, api.MaxParts+1)...), "too deep": nested(api.MaxDepth + 1), "what is nested very deep": nested(1 << 12),
			"a bad key": table(pair("\xff", whole(1))), "a key twice": table(pair("a", whole(1)), pair("a", whole(1))), "a list with what is wrong": list(text("x"), text("\xff")),
		} {
			l[name+" of "+what] = do("a", v)
		}
		l[name+" at a long key"] = do(long, whole(1))
		l[name+" at no UTF-8"] = do("a\xff", whole(1))
	}
	for name, a := range map[string]api.Action{"delete": remove("a"), "hash": hash("a")} {
		for what, v := range map[string]api.Value{"a text": text("x"), "an empty text": text(""), "an int": whole(0), "a float": part(0), "false": truth(false), "a list": list(), "a map": table(), "bytes": bytes(""), "S": {S: "x"}, "B": {B: true}, "N": {N: 1}, "F": {F: minus}, "List": {List: make([]api.Value, 1)}, "Pairs": {Pairs: make([]api.Pair, 1)}, "what is wrong": text("\xff")} {
			a.Value = v
			l[name+" with "+what] = a
		}
		l[name+" of a long key"] = api.Action{Kind: a.Kind, Key: long}
		l[name+" of no UTF-8"] = api.Action{Kind: a.Kind, Key: "\xc3"}
	}
	return l
}

func TestP142Check(t *testing.T) {
	longest := strings.Repeat("x", api.MaxText)
	right := []api.Action{remove("a"), remove(""), remove(longest), hash("a b"), hash(""), hash(longest), {Kind: api.ActionHash, Key: "a", Value: api.Value{List: []api.Value{}, Pairs: []api.Pair{}}}}
	for _, v := range []api.Value{text(""), text(longest), whole(1<<63 - 1), whole(-1 << 63), truth(false), truth(true), part(0), part(minus), bits(0x7ff8000000000001), bytes("\xff"), list(), list(api.Value{}), table(), table(pair("", api.Value{})), nested(api.MaxDepth)} {
		right = append(right, insert("a", v), update("", v), upsert(longest, v))
	}
	for _, a := range right {
		for _, l := range []api.Attrs{items(a), resources(a), items(a, a, a), items(slices.Repeat([]api.Action{a}, api.MaxParts)...)} {
			if why := attrs.Check(l); why != api.OK {
				t.Errorf("Check of %s: error %d", brief(l), why)
			}
		}
		if why := attrs.Check(items(slices.Repeat([]api.Action{a}, api.MaxParts+1)...)); why != api.ErrConf {
			t.Errorf("Check of too many %s: error %d", brief(a), why)
		}
	}
	for _, l := range []api.Attrs{{}, resources(), {Actions: []api.Action{}}} {
		if why := attrs.Check(l); why != api.OK {
			t.Errorf("Check of nothing: error %d", why)
		}
	}
	for name, a := range wrong() {
		for _, l := range []api.Attrs{items(a), resources(a), items(remove("x"), a), items(a, remove("x"))} {
			if why := attrs.Check(l); why != api.ErrConf {
				t.Errorf("Check of %s: error %d", name, why)
			}
			checkPairs(t, name, pairs(pair("a", whole(1))), l, nil, api.ErrConf)
			checkApply(t, name, data(api.SignalLog, [][]api.Pair{nil}), l, api.Data{}, api.ErrConf)
		}
	}
}

func TestP142Pairs(t *testing.T) {
	a, b, c := pair("a", whole(1)), pair("b", list(whole(2))), pair("", text("c"))
	x := table(pair("x", part(minus)))
	for name, y := range map[string]struct {
		l, want []api.Pair
		actions []api.Action
	}{
		"no actions":                  {pairs(a, b), pairs(a, b), nil},
		"no actions on nothing":       {nil, nil, nil},
		"insert into nothing":         {nil, pairs(pair("a", x)), []api.Action{insert("a", x)}},
		"insert what is not there":    {pairs(b, c), pairs(b, c, pair("a", x)), []api.Action{insert("a", x)}},
		"insert what is there":        {pairs(b, a, c), pairs(b, a, c), []api.Action{insert("a", x)}},
		"insert the empty key":        {pairs(a), pairs(a, pair("", x)), []api.Action{insert("", x)}},
		"insert twice":                {pairs(b), pairs(b, pair("a", x)), []api.Action{insert("a", x), insert("a", whole(9))}},
		"insert, whatever case":       {pairs(a), pairs(a, pair("A", x)), []api.Action{insert("A", x)}},
		"update what is there":        {pairs(b, a, c), pairs(b, pair("a", x), c), []api.Action{update("a", x)}},
		"update what is not there":    {pairs(b, c), pairs(b, c), []api.Action{update("a", x)}},
		"update nothing":              {nil, nil, []api.Action{update("a", x)}},
		"update the first":            {pairs(a, b), pairs(pair("a", x), b), []api.Action{update("a", x)}},
		"update the last":             {pairs(a, c), pairs(a, pair("", x)), []api.Action{update("", x)}},
		"upsert what is there":        {pairs(b, a, c), pairs(b, pair("a", x), c), []api.Action{upsert("a", x)}},
		"upsert what is not there":    {pairs(b, c), pairs(b, c, pair("a", x)), []api.Action{upsert("a", x)}},
		"upsert into nothing":         {nil, pairs(pair("a", x)), []api.Action{upsert("a", x)}},
		"upsert twice":                {pairs(b), pairs(b, pair("a", whole(9))), []api.Action{upsert("a", x), upsert("a", whole(9))}},
		"delete what is there":        {pairs(b, a, c), pairs(b, c), []api.Action{remove("a")}},
		"delete what is not there":    {pairs(b, c), pairs(b, c), []api.Action{remove("a")}},
		"delete nothing":              {nil, nil, []api.Action{remove("a")}},
		"delete all":                  {pairs(a, b, c), nil, []api.Action{remove("b"), remove("a"), remove("")}},
		"hash what is there":          {pairs(b, a, c), pairs(b, pair("a", digest(whole(1))), c), []api.Action{hash("a")}},
		"hash what is not there":      {pairs(b, c), pairs(b, c), []api.Action{hash("a")}},
		"hash nothing":                {nil, nil, []api.Action{hash("a")}},
		"hash twice":                  {pairs(a), pairs(pair("a", digest(digest(whole(1))))), []api.Action{hash("a"), hash("a")}},
		"insert, delete":              {pairs(b), pairs(b), []api.Action{insert("a", x), remove("a")}},
		"delete, insert":              {pairs(a, b), pairs(b, pair("a", x)), []api.Action{remove("a"), insert("a", x)}},
		"delete, update":              {pairs(a, b), pairs(b), []api.Action{remove("a"), update("a", x)}},
		"insert, update, hash":        {nil, pairs(pair("a", digest(x))), []api.Action{insert("a", whole(3)), update("a", x), hash("a")}},
		"update with what it was":     {pairs(a, b), pairs(a, b), []api.Action{update("a", whole(1))}},
		"one for each":                {pairs(a, b, c), pairs(a, pair("", digest(text("c"))), pair("n", x)), []api.Action{insert("a", x), remove("b"), hash(""), upsert("n", x)}},
		"a value that is nothing":     {pairs(pair("a", api.Value{}), b), pairs(pair("a", api.Value{}), b), []api.Action{insert("a", x)}},
		"update what is nothing":      {pairs(pair("a", api.Value{}), b), pairs(pair("a", x), b), []api.Action{update("a", x)}},
		"hash what is nothing":        {pairs(pair("a", api.Value{})), pairs(pair("a", text("cbf29ce484222325"))), []api.Action{hash("a")}},
		"an int that no text has":     {nil, pairs(pair("a b", whole(-1<<63))), []api.Action{insert("a b", whole(-1<<63))}},
		"floats as they are":          {nil, pairs(pair("a", bits(0x7ff8000000000123))), []api.Action{insert("a", bits(0x7ff8000000000123))}},
		"the chapter's example, 1":    {nil, pairs(pair("a", text("x y"))), []api.Action{insert("a", text("x y"))}},
		"the chapter's example, both": {nil, pairs(pair("a", digest(text("x y")))), []api.Action{insert("a", text("x y")), hash("a")}},
	} {
		for _, on := range []bool{false, true} { // it is no matter here
			checkPairs(t, name, y.l, api.Attrs{Resource: on, Actions: y.actions}, y.want, api.OK)
		}
	}
}

// TestP142Hash has values whose digits are known.
func TestP142Hash(t *testing.T) {
	for _, x := range []struct {
		v    api.Value
		want string
	}{
		{api.Value{}, "cbf29ce484222325"},
		{text(""), "08548407b5084f87"},
		{text("x y"), "486b0c8a875f8871"},
		{whole(-1), "1e8c4306ed00f6b3"},
		{part(minus), "e54f0129fc9597cc"},
		{part(0), "e54f8129fc96714c"},
		{truth(false), "0868e807b519a27d"},
		{bytes("\xff"), "a55141184e9d1ec1"},
		{list(text("x"), table(pair("a", whole(1)))), digest(list(text("x"), table(pair("a", whole(1))))).S},
	} {
		checkPairs(t, brief(x.v), pairs(pair("a", x.v)), items(hash("a")), pairs(pair("a", text(x.want))), api.OK)
	}
	short := 0 // digits with noughts ahead
	for i := range int64(2000) {
		want := digest(whole(i))
		if strings.HasPrefix(want.S, "0") {
			short++
		}
		checkPairs(t, "an int", pairs(pair("a", whole(i))), items(hash("a")), pairs(pair("a", want)), api.OK)
	}
	if short < 50 {
		t.Errorf("%d with noughts ahead only", short)
	}
	long := list(slices.Repeat([]api.Value{text(strings.Repeat("x", api.MaxText))}, 20)...)
	if s, why := value.Write(long); s != "" || why != api.ErrLong || value.Check(long) != api.OK {
		t.Fatalf("Write: %d bytes, error %d", len(s), why)
	}
	checkPairs(t, "what is too long for a message", pairs(pair("a", long)), items(hash("a")), pairs(pair("a", text("cbf29ce484222325"))), api.OK)
}

func TestP142PairsRefused(t *testing.T) {
	long := strings.Repeat("x", api.MaxText+1)
	for name, x := range map[string]struct {
		l    []api.Pair
		want api.Errno
	}{
		"a key twice":          {pairs(pair("a", whole(1)), pair("b", whole(1)), pair("a", whole(2))), api.ErrState},
		"a key twice, at once": {pairs(pair("a", whole(1)), pair("a", whole(1))), api.ErrState},
		"too many":             {numbered(api.MaxParts + 1), api.ErrMany},
		"a long key":           {pairs(pair(long, whole(1))), api.ErrLong},
		"a key of no UTF-8":    {pairs(pair("\xff", whole(1))), api.ErrUtf},
		"a long text":          {pairs(pair("a", text(long))), api.ErrLong},
		"no kind":              {pairs(pair("a", api.Value{Kind: 99})), api.ErrType},
		"too deep":             {pairs(pair("a", nested(9))), api.ErrDepth},
	} {
		for _, a := range []api.Action{insert("a", text("x")), update("a", text("x")), upsert("a", text("x")), remove("a"), hash("a"), remove("b")} {
			checkPairs(t, name, x.l, items(a), nil, x.want)
		}
		checkPairs(t, name, x.l, items(), nil, x.want)
		checkPairs(t, name, x.l, items(api.Action{}), nil, api.ErrConf)
		checkPairs(t, name, x.l, items(slices.Repeat([]api.Action{remove("a")}, api.MaxParts+1)...), nil, api.ErrConf)
	}
}

// TestP142Most has as many pairs as may be, and one more, behind all actions and ahead of that.
func TestP142Most(t *testing.T) {
	full, x := numbered(api.MaxParts), text("x")
	less := full[:api.MaxParts-1]
	checkPairs(t, "one to full", less, items(insert("a", x)), append(slices.Clone(less), pair("a", x)), api.OK)
	checkPairs(t, "two to full", less, items(insert("a", x), upsert("b", x)), nil, api.ErrMany)
	checkPairs(t, "full, and one", full, items(insert("a", x)), nil, api.ErrMany)
	checkPairs(t, "full, and another one", full, items(upsert("a", x)), nil, api.ErrMany)
	checkPairs(t, "full, and one that is there", full, items(insert("k0", x), update("a", x), hash("b"), remove("c")), full, api.OK)
	checkPairs(t, "full, one and one less", full, items(insert("a", x), remove("a")), full, api.OK)
	checkPairs(t, "full, one less and one", full, items(remove("k255"), insert("a", x)), append(slices.Clone(less), pair("a", x)), api.OK)
	checkPairs(t, "full, one and another one less", full, items(insert("a", x), remove("k255")), append(slices.Clone(less), pair("a", x)), api.OK)
	var more, back []api.Action
	for _, p := range full[:128] {
		more, back = append(more, insert("n"+p.Key, x)), append(back, remove(p.Key))
	}
	got, why := attrs.Pairs(full, items(append(more, back...)...))
	if len(got) != api.MaxParts || why != api.OK || got[0].Key != "k128" || got[255].Key != "nk127" {
		t.Errorf("Pairs of many more and many less: %d, error %d", len(got), why)
	}
	checkPairs(t, "many more", full, items(more...), nil, api.ErrMany)
	checkPairs(t, "as many actions as may be on nothing", nil, items(slices.Repeat([]api.Action{upsert("a", x)}, api.MaxParts)...), pairs(pair("a", x)), api.OK)
	var all []api.Action
	for _, p := range full {
		all = append(all, insert(p.Key, p.Value))
	}
	checkPairs(t, "all inserted", nil, items(all...), full, api.OK)
	checkPairs(t, "all inserted to one", pairs(pair("a", x)), items(all...), nil, api.ErrMany)
}

func TestP142PairsModel(t *testing.T) {
	r := rand.New(rand.NewPCG(14, 2))
	for range 5000 {
		l, actions := somePairs(r), someActions(r, 8)
		checkPairs(t, brief(l)+" behind "+brief(actions), l, items(actions...), model(l, actions), api.OK)
	}
}
