package value_test

import (
	"math"
	"strings"
	"testing"

	"penstock/api"
	"penstock/value"
)

func TestP21RightValues(t *testing.T) {
	for name, v := range map[string]api.Value{
		"nothing":       {},
		"empty text":    text(""),
		"text":          text("a"),
		"long text":     text(strings.Repeat("a", api.MaxText)),
		"long text, é":  text(strings.Repeat("é", api.MaxText/2)),
		"text with 0":   text("\x00\x7f"),
		"greatest rune": text("\U0010FFFF\uFFFD\uFFFF"),
		"false":         truth(false),
		"true":          truth(true),
		"int":           whole(math.MinInt64),
		"float":         part(1.5),
		"-0":            part(minus),
		"NaN":           bits(0xfff8000000001234),
		"empty list":    list(),
		"no list":       {Kind: api.KindList, List: []api.Value{}, Pairs: []api.Pair{}},
		"list":          list(text("a"), api.Value{}, text("a")),
		"long list":     list(times(whole(1), api.MaxParts)...),
		"empty map":     table(),
		"map":           table(pair("", whole(1)), pair("a", api.Value{})),
		"long map":      table(keyed(text("a"), api.MaxParts)...),
		"key in two":    table(pair("a", table(pair("a", whole(1)))), pair("b", table(pair("a", whole(1))))),
		"long key":      table(pair(strings.Repeat("a", api.MaxText), whole(1))),
		"bytes":         raw("\xff\x00"),
		"long bytes":    raw(strings.Repeat("\xff", api.MaxText)),
		"MaxDepth":      nested(text("a"), api.MaxDepth),
		"MaxDepth l":    lists(text("a"), api.MaxDepth),
		"MaxDepth m":    maps(text("a"), api.MaxDepth),
	} {
		checkValue(t, name, v, api.OK)
	}
}

func TestP21FieldsOfOtherKinds(t *testing.T) {
	for field, x := range map[string]struct {
		v  api.Value
		is map[api.Kind]bool
	}{
		"S":     {api.Value{S: "a"}, map[api.Kind]bool{api.KindText: true, api.KindBytes: true}},
		"B":     {api.Value{B: true}, map[api.Kind]bool{api.KindBool: true}},
		"N":     {api.Value{N: -1}, map[api.Kind]bool{api.KindInt: true}},
		"F":     {api.Value{F: 1}, map[api.Kind]bool{api.KindFloat: true}},
		"-0":    {api.Value{F: minus}, map[api.Kind]bool{api.KindFloat: true}},
		"NaN":   {api.Value{F: math.NaN()}, map[api.Kind]bool{api.KindFloat: true}},
		"List":  {api.Value{List: []api.Value{{}}}, map[api.Kind]bool{api.KindList: true}},
		"Pairs": {api.Value{Pairs: []api.Pair{{}}}, map[api.Kind]bool{api.KindMap: true}},
	} {
		for kind := range api.KindCount {
			v := x.v
			v.Kind = kind
			want := api.ErrType
			if x.is[kind] {
				want = api.OK
			}
			checkValue(t, field+" of kind "+string('0'+rune(kind)), v, want)
		}
	}
	for _, kind := range []api.Kind{api.KindCount, api.KindCount + 1, 100, 255} {
		checkValue(t, "no kind", api.Value{Kind: kind}, api.ErrType)
	}
}

func TestP21WrongTexts(t *testing.T) {
	for _, s := range []string{"\xff", "\x80", "a\xc3", "\xc0\x80", "\xe0\x80\x80", "\xed\xa0\x80", "\xed\xbf\xbf", "\xf4\x90\x80\x80", "\xf0\x80\x80\x80", "\xe2\x82", "a\xf8\x88\x80\x80\x80"} {
		checkValue(t, "no UTF-8", text(s), api.ErrUtf)
		checkValue(t, "no UTF-8, a key", table(pair(s, whole(1))), api.ErrUtf)
		checkValue(t, "bytes", raw(s), api.OK)
		checkErr(t, "CheckPairs of no UTF-8", value.CheckPairs([]api.Pair{pair(s, whole(1))}), api.ErrUtf)
	}
	long, wrong := strings.Repeat("a", api.MaxText+1), strings.Repeat("\xff", api.MaxText+1)
	checkValue(t, "long text", text(long), api.ErrLong)
	checkValue(t, "long text, é", text(strings.Repeat("é", api.MaxText/2)+"a"), api.ErrLong)
	checkValue(t, "long text, no UTF-8", text(wrong), api.ErrLong)
	checkValue(t, "long bytes", raw(wrong), api.ErrLong)
	checkValue(t, "long key", table(pair(long, whole(1))), api.ErrLong)
	checkValue(t, "long key, no UTF-8", table(pair(wrong, whole(1))), api.ErrLong)
	checkErr(t, "CheckPairs of a long key", value.CheckPairs([]api.Pair{pair(wrong, whole(1))}), api.ErrLong)
}

func TestP21FirstError(t *testing.T) {
	long, utf := text(strings.Repeat("a", api.MaxText+1)), text("\xff")
	typed := api.Value{N: 1}
	many, twice := list(times(utf, api.MaxParts+1)...), table(pair("a", whole(1)), pair("b", whole(1)), pair("a", whole(1)))
	for name, x := range map[string]struct {
		v    api.Value
		want api.Errno
	}{
		"type ahead of long":           {api.Value{Kind: api.KindText, S: long.S, N: 1}, api.ErrType},
		"long of no kind that has it":  {api.Value{Kind: api.KindInt, S: long.S}, api.ErrType},
		"type ahead of UTF-8":          {api.Value{Kind: api.KindText, S: "\xff", B: true}, api.ErrType},
		"type ahead of many":           {api.Value{Kind: api.KindList, List: many.List, B: true}, api.ErrType},
		"type ahead of parts":          {api.Value{Kind: api.KindMap, Pairs: []api.Pair{pair("\xff", long)}, S: "a"}, api.ErrType},
		"many":                         {list(times(whole(1), api.MaxParts+1)...), api.ErrMany},
		"many ahead of parts":          {many, api.ErrMany},
		"many pairs":                   {table(keyed(whole(1), api.MaxParts+1)...), api.ErrMany},
		"many ahead of keys":           {table(make([]api.Pair, api.MaxParts+1)...), api.ErrMany},
		"deep":                         {nested(whole(1), api.MaxDepth+1), api.ErrDepth},
		"deep lists":                   {lists(whole(1), api.MaxDepth+1), api.ErrDepth},
		"deep maps":                    {maps(whole(1), api.MaxDepth+1), api.ErrDepth},
		"deep, an empty list":          {nested(list(), api.MaxDepth), api.ErrDepth},
		"deep, an empty map":           {nested(table(), api.MaxDepth), api.ErrDepth},
		"many ahead of deep":           {nested(many, api.MaxDepth), api.ErrMany},
		"many pairs ahead of deep":     {nested(table(make([]api.Pair, api.MaxParts+1)...), api.MaxDepth), api.ErrMany},
		"deep ahead of parts":          {nested(list(utf), api.MaxDepth), api.ErrDepth},
		"deep ahead of keys":           {nested(table(pair("\xff", utf)), api.MaxDepth), api.ErrDepth},
		"deep ahead of keys twice":     {nested(twice, api.MaxDepth), api.ErrDepth},
		"type at MaxDepth":             {nested(typed, api.MaxDepth), api.ErrType},
		"parts in order":               {list(utf, long), api.ErrUtf},
		"parts in order, turned round": {list(long, utf), api.ErrLong},
		"the last part":                {list(whole(1), api.Value{}, typed), api.ErrType},
		"what is in the first part":    {list(list(long), utf), api.ErrLong},
		"deep behind the first part":   {list(utf, lists(whole(1), api.MaxDepth)), api.ErrUtf},
		"key ahead of its value":       {table(pair("\xff", long)), api.ErrUtf},
		"a long key ahead of it":       {table(pair(long.S, utf)), api.ErrLong},
		"value ahead of the next key":  {table(pair("a", long), pair("\xff", whole(1))), api.ErrLong},
		"the last value":               {table(pair("a", whole(1)), pair("b", typed)), api.ErrType},
		"key twice":                    {twice, api.ErrState},
		"empty key twice":              {table(pair("", whole(1)), pair("", whole(2))), api.ErrState},
		"key twice behind values":      {table(pair("a", whole(1)), pair("a", whole(1)), pair("b", utf)), api.ErrUtf},
		"key twice behind its value":   {table(pair("a", whole(1)), pair("a", typed)), api.ErrType},
		"key twice, at its turn":       {list(twice, utf), api.ErrState},
		"key twice, behind another":    {list(utf, twice), api.ErrUtf},
		"key twice, in a map":          {table(pair("a", twice), pair("b", utf)), api.ErrState},
		"key twice, in the last":       {nested(twice, api.MaxDepth-1), api.ErrState},
		"key twice around an error":    {table(pair("a", whole(1)), pair("a", list(long))), api.ErrLong},
	} {
		checkValue(t, name, x.v, x.want)
	}
}

func TestP21CheckPairs(t *testing.T) {
	long := strings.Repeat("a", api.MaxText+1)
	for name, x := range map[string]struct {
		l    []api.Pair
		want api.Errno
	}{
		"none":                        {nil, api.OK},
		"empty":                       {[]api.Pair{}, api.OK},
		"a few":                       {keyed(text("a"), 3), api.OK},
		"MaxParts":                    {keyed(text("a"), api.MaxParts), api.OK},
		"MaxParts + 1":                {keyed(text("a"), api.MaxParts+1), api.ErrMany},
		"many ahead of keys":          {append(make([]api.Pair, api.MaxParts), pair("\xff", whole(1))), api.ErrMany},
		"MaxDepth":                    {[]api.Pair{pair("a", nested(whole(1), api.MaxDepth))}, api.OK},
		"MaxDepth + 1":                {[]api.Pair{pair("a", nested(whole(1), api.MaxDepth+1))}, api.ErrDepth},
		"key twice":                   {[]api.Pair{pair("a", whole(1)), pair("b", whole(1)), pair("a", whole(2))}, api.ErrState},
		"key twice behind values":     {[]api.Pair{pair("a", whole(1)), pair("a", whole(1)), pair("b", text("\xff"))}, api.ErrUtf},
		"key ahead of its value":      {[]api.Pair{pair(long, text("\xff"))}, api.ErrLong},
		"value ahead of the next key": {[]api.Pair{pair("a", text("\xff")), pair(long, whole(1))}, api.ErrUtf},
		"the last pair":               {[]api.Pair{pair("a", whole(1)), pair("b", whole(1)), pair("c", api.Value{S: "a"})}, api.ErrType},
	} {
		checkErr(t, "CheckPairs of "+name, value.CheckPairs(x.l), x.want)
	}
}
