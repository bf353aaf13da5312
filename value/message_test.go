package value_test

import (
	"math"
	"math/rand/v2"
	"slices"
	"strings"
	"testing"

	"penstock/api"
	"penstock/value"
	"penstock/wire"
)

func num(n int, x uint64) api.Field   { return api.Field{Num: n, Wire: api.WireVarint, N: x} }
func eight(n int, x uint64) api.Field { return api.Field{Num: n, Wire: api.WireEight, N: x} }
func four(n int, x uint64) api.Field  { return api.Field{Num: n, Wire: api.WireFour, N: x} }
func bytes(n int, s string) api.Field { return api.Field{Num: n, Wire: api.WireBytes, S: s} }

// message is the fields as bytes.
func message(t *testing.T, l ...api.Field) string {
	t.Helper()
	s, why := wire.Write(l)
	if why != api.OK {
		t.Fatal("a message of the test itself: error", why)
	}
	return s
}

// lasting is so many fields of one kind.
func lasting(f api.Field, n int) []api.Field {
	return slices.Repeat([]api.Field{f}, n)
}

// written is values, by what their messages are.
func written() map[string]api.Value {
	return map[string]api.Value{
		"":                  {},
		"\x0a\x00":          text(""),
		"\x0a\x03\xc3\xa9a": text("éa"),
		"\x10\x00":          truth(false),
		"\x10\x01":          truth(true),
		"\x18\x00":          whole(0),
		"\x18\xac\x02":      whole(300),
		"\x18\xff\xff\xff\xff\xff\xff\xff\xff\xff\x01":               whole(-1),
		"\x18\x80\x80\x80\x80\x80\x80\x80\x80\x80\x01":               whole(math.MinInt64),
		"\x18\xff\xff\xff\xff\xff\xff\xff\xff\x7f":                   whole(math.MaxInt64),
		"\x21\x00\x00\x00\x00\x00\x00\x00\x00":                       part(0),
		"\x21\x00\x00\x00\x00\x00\x00\x00\x80":                       part(minus),
		"\x21\x00\x00\x00\x00\x00\x00\xf8\x3f":                       part(1.5),
		"\x21\x08\x07\x06\x05\x04\x03\xf8\xff":                       bits(0xfff8030405060708),
		"\x21\x01\x00\x00\x00\x00\x00\xf0\x7f":                       bits(0x7ff0000000000001),
		"\x2a\x00":                                                   list(),
		"\x2a\x02\x0a\x00":                                           list(api.Value{}),
		"\x2a\x0b\x0a\x02\x18\x01\x0a\x00\x0a\x03\x0a\x01a":          list(whole(1), api.Value{}, text("a")),
		"\x2a\x06\x0a\x04\x2a\x02\x0a\x00":                           list(list(api.Value{})),
		"\x32\x00":                                                   table(),
		"\x32\x02\x0a\x00":                                           table(pair("", api.Value{})),
		"\x32\x05\x0a\x03\x0a\x01a":                                  table(pair("a", api.Value{})),
		"\x32\x06\x0a\x04\x12\x02\x18\x01":                           table(pair("", whole(1))),
		"\x32\x09\x0a\x07\x0a\x01a\x12\x02\x18\x01":                  table(pair("a", whole(1))),
		"\x32\x09\x0a\x07\x0a\x01a\x12\x02\x0a\x00":                  table(pair("a", text(""))),
		"\x32\x09\x0a\x07\x0a\x01a\x12\x02\x32\x00":                  table(pair("a", table())),
		"\x32\x0e\x0a\x07\x0a\x01b\x12\x02\x18\x01\x0a\x03\x0a\x01a": table(pair("b", whole(1)), pair("a", api.Value{})),
		"\x3a\x00":         raw(""),
		"\x3a\x02\xff\x00": raw("\xff\x00"),
	}
}

// checkRead tells what Read says of s, and ReadPair of a pair with it.
func checkRead(t *testing.T, name, s string, want api.Value, wantWhy api.Errno) {
	t.Helper()
	v, why := value.Read(s)
	if !same(v, want) || why != wantWhy {
		t.Errorf("Read of %s: kind %d, error %d, want kind %d, error %d", name, v.Kind, why, want.Kind, wantWhy)
	}
	if len(s) > api.MaxBytes-10 {
		return
	}
	p, why := value.ReadPair(message(t, bytes(1, "k"), bytes(2, s)))
	wantPair := pair("k", want)
	if wantWhy != api.OK {
		wantPair = api.Pair{}
	}
	if !samePairs([]api.Pair{p}, []api.Pair{wantPair}) || why != wantWhy {
		t.Errorf("ReadPair of %s: kind %d, error %d, want kind %d, error %d", name, p.Value.Kind, why, want.Kind, wantWhy)
	}
}

func TestP22ValuesAsBytes(t *testing.T) {
	for want, v := range written() {
		if s, why := value.Write(v); s != want || why != api.OK {
			t.Errorf("Write of %v: %x, error %d, want %x", v, s, why, want)
		}
		checkRead(t, want, want, v, api.OK)
	}
}

func TestP22PairsAsBytes(t *testing.T) {
	for want, p := range map[string]api.Pair{
		"":                                 {},
		"\x0a\x01a":                        pair("a", api.Value{}),
		"\x12\x02\x18\x01":                 pair("", whole(1)),
		"\x12\x02\x10\x00":                 pair("", truth(false)),
		"\x0a\x01a\x12\x02\x18\x00":        pair("a", whole(0)),
		"\x0a\x02\xc3\xa9\x12\x02\x2a\x00": pair("é", list()),
	} {
		if s, why := value.WritePair(p); s != want || why != api.OK {
			t.Errorf("WritePair of %v: %x, error %d, want %x", p, s, why, want)
		}
		if got, why := value.ReadPair(want); !samePairs([]api.Pair{got}, []api.Pair{p}) || why != api.OK {
			t.Errorf("ReadPair of %x: %v, error %d", want, got, why)
		}
	}
}

func TestP22WritePairErrors(t *testing.T) {
	long := strings.Repeat("a", api.MaxText+1)
	for name, x := range map[string]struct {
		p    api.Pair
		want api.Errno
	}{
		"a long key":              {pair(long, api.Value{}), api.ErrLong},
		"a key that is no UTF-8":  {pair("\xff", api.Value{}), api.ErrUtf},
		"long ahead of UTF-8":     {pair(long+"\xff", api.Value{}), api.ErrLong},
		"key ahead of value":      {pair("\xff", text(long)), api.ErrUtf},
		"key ahead of value, too": {pair(long, text("\xff")), api.ErrLong},
		"MaxDepth + 1":            {pair("a", nested(whole(1), api.MaxDepth+1)), api.ErrDepth},
		"a value of no kind":      {pair("a", api.Value{Kind: api.KindCount}), api.ErrType},
	} {
		s, why := value.WritePair(x.p)
		checkErr(t, "WritePair of "+name, why, x.want)
		if s != "" {
			t.Errorf("WritePair of %s: %x beside an error", name, s)
		}
	}
	s, why := value.WritePair(pair(strings.Repeat("a", api.MaxText), nested(whole(1), api.MaxDepth)))
	if checkErr(t, "WritePair of what just may be", why, api.OK); s == "" {
		t.Error("WritePair of what just may be: nothing")
	}
}

// large is a list whose message has MaxBytes bytes, and so many more.
func large(more int) api.Value {
	l := times(text(strings.Repeat("a", api.MaxText)), 15) // 6 bytes beside each text, 4 around them all
	return list(append(l, text(strings.Repeat("a", api.MaxBytes-4-15*(api.MaxText+6)-6+more)))...)
}

func TestP22WriteLong(t *testing.T) {
	s, why := value.Write(large(0))
	if len(s) != api.MaxBytes || why != api.OK {
		t.Errorf("Write of MaxBytes: %d, error %d", len(s), why)
	}
	checkRead(t, "MaxBytes", s, large(0), api.OK)
	for name, v := range map[string]api.Value{
		"MaxBytes + 1":                 large(1),
		"a list of MaxBytes":           list(large(0)),
		"a list of one that is longer": list(large(1), whole(1)),
		"a map of one that is longer":  table(pair("a", whole(1)), pair("b", large(1))),
		"one that is far longer":       list(times(list(times(text(strings.Repeat("a", api.MaxText)), api.MaxParts)...), 3)...),
		"one that is far longer, deep": nested(list(times(raw(strings.Repeat("a", api.MaxText)), api.MaxParts)...), api.MaxDepth-1),
	} {
		s, why := value.Write(v)
		checkErr(t, "Write of "+name, why, api.ErrLong)
		p, whyPair := value.WritePair(pair("a", v))
		checkErr(t, "WritePair of "+name, whyPair, api.ErrLong)
		if s != "" || p != "" {
			t.Errorf("Write of %s: %d and %d bytes beside an error", name, len(s), len(p))
		}
	}
	for key, more := range map[string]int{"": -4, "a": -7} {
		s, why := value.WritePair(pair(key, large(more)))
		if len(s) != api.MaxBytes || why != api.OK {
			t.Errorf("WritePair of MaxBytes: %d, error %d", len(s), why)
		}
		s, why = value.WritePair(pair(key, large(more+1)))
		if s != "" || why != api.ErrLong {
			t.Errorf("WritePair of MaxBytes + 1: %d, error %d", len(s), why)
		}
	}
	_, why = value.Write(list(large(1), text("\xff")))
	checkErr(t, "Write of what is too long and not right", why, api.ErrUtf)
}

func TestP22ReadLastField(t *testing.T) {
	deep, _ := value.Write(nested(whole(1), api.MaxDepth))
	bad := "\x0f"
	for name, x := range map[string]struct {
		l    []api.Field
		want api.Value
	}{
		"a text, then a bool":             {[]api.Field{bytes(1, "a"), num(2, 1)}, truth(true)},
		"a bool, then a text":             {[]api.Field{num(2, 1), bytes(1, "a")}, text("a")},
		"two texts":                       {[]api.Field{bytes(1, "a"), bytes(1, "b")}, text("b")},
		"an empty text last":              {[]api.Field{num(3, 1), bytes(1, "")}, text("")},
		"two ints":                        {[]api.Field{num(3, 5), num(3, 0)}, whole(0)},
		"two lists":                       {[]api.Field{bytes(5, "\x0a\x02\x18\x01"), bytes(5, "\x0a\x02\x18\x02")}, list(whole(2))},
		"a list, then an empty one":       {[]api.Field{bytes(5, "\x0a\x02\x18\x01"), bytes(5, "")}, list()},
		"two maps":                        {[]api.Field{bytes(6, "\x0a\x03\x0a\x01a"), bytes(6, "\x0a\x03\x0a\x01b")}, table(pair("b", api.Value{}))},
		"bytes, then a float":             {[]api.Field{bytes(7, "a"), eight(4, 1<<63)}, part(minus)},
		"a float, then bytes":             {[]api.Field{eight(4, 1), bytes(7, "a")}, raw("a")},
		"unknown fields last":             {[]api.Field{num(3, 1), num(8, 2), bytes(9, bad), eight(1000, 1), four(api.MaxNum, 1)}, whole(1)},
		"unknown fields alone":            {[]api.Field{num(8, 2), bytes(16, bad), bytes(api.MaxNum, "a")}, api.Value{}},
		"fields of other wires last":      {[]api.Field{bytes(1, "a"), num(1, 1), eight(1, 1), four(1, 1), bytes(2, bad), bytes(3, bad), bytes(4, bad), num(5, 1), num(6, 1), num(7, 1), four(4, 1), num(4, 1)}, text("a")},
		"no matter: a wrong text":         {[]api.Field{bytes(1, "\xff"), num(2, 0)}, truth(false)},
		"no matter: a long text":          {[]api.Field{bytes(1, strings.Repeat("a", api.MaxText+1)), bytes(1, "a")}, text("a")},
		"no matter: long bytes":           {[]api.Field{bytes(7, strings.Repeat("a", api.MaxText+1)), num(3, 1)}, whole(1)},
		"no matter: a list, no message":   {[]api.Field{bytes(5, bad), bytes(6, bad), num(3, 1)}, whole(1)},
		"no matter: a list of too many":   {[]api.Field{bytes(5, strings.Repeat("\x0a\x00", api.MaxParts+1)), bytes(5, "")}, list()},
		"no matter: a list that is deep":  {[]api.Field{bytes(5, "\x0a"+wire.Num(uint64(len(deep)))+deep), num(3, 1)}, whole(1)},
		"no matter: a map of wrong pairs": {[]api.Field{bytes(6, "\x0a\x01\x0f"), num(3, 1)}, whole(1)},
	} {
		checkRead(t, name, message(t, x.l...), x.want, api.OK)
	}
}

func TestP22ReadWires(t *testing.T) {
	right := map[int]api.Value{1: text(""), 2: truth(false), 3: whole(0), 4: part(0), 5: list(), 6: table(), 7: raw("")}
	wires := map[int]api.Wire{1: api.WireBytes, 2: api.WireVarint, 3: api.WireVarint, 4: api.WireEight, 5: api.WireBytes, 6: api.WireBytes, 7: api.WireBytes}
	for n := 1; n <= 40; n++ {
		for _, w := range []api.Wire{api.WireVarint, api.WireEight, api.WireFour, api.WireBytes} {
			want := api.Value{}
			if x, is := wires[n]; is && x == w {
				want = right[n]
			}
			checkRead(t, "a field of some number and wire", message(t, api.Field{Num: n, Wire: w}), want, api.OK)
		}
	}
}

func TestP22ReadNumbers(t *testing.T) {
	for n, want := range map[uint64]bool{0: false, 1: true, 2: true, 128: true, 1 << 32: true, 1 << 63: true, math.MaxUint64: true} {
		checkRead(t, "a bool", message(t, num(2, n)), truth(want), api.OK)
		checkRead(t, "an int", message(t, num(3, n)), whole(int64(n)), api.OK)
		checkRead(t, "a float", message(t, eight(4, n)), bits(n), api.OK)
	}
	checkRead(t, "a long varint", "\x98\x00\x81\x80\x00", whole(1), api.OK)
	for _, n := range []uint64{0x7ff8000000000001, 0x7ff0000000000001, 0xfff8000000000000, 0xffffffffffffffff} {
		checkRead(t, "a NaN", message(t, eight(4, n)), bits(n), api.OK)
	}
}

func TestP22ReadParts(t *testing.T) {
	one, pairA, pairB := bytes(1, "\x18\x01"), bytes(1, "\x0a\x01a\x12\x02\x18\x01"), bytes(1, "\x0a\x01b\x12\x02\x18\x02")
	others := []api.Field{num(1, 1), eight(1, 1), four(1, 1), bytes(2, "\x0f"), bytes(3, "\xff"), num(5, 1)}
	for name, x := range map[string]struct {
		n    int
		l    []api.Field
		want api.Value
	}{
		"a list, other fields in it":      {5, append(append(slices.Clone(others), one, one), others...), list(whole(1), whole(1))},
		"a list of others":                {5, others, list()},
		"a list of MaxParts":              {5, lasting(one, api.MaxParts), list(times(whole(1), api.MaxParts)...)},
		"a list of MaxParts, and others":  {5, append(lasting(bytes(1, ""), api.MaxParts), lasting(num(1, 1), 1000)...), list(make([]api.Value, api.MaxParts)...)},
		"a list of MaxFields":             {5, append(lasting(num(1, 1), api.MaxFields-1), one), list(whole(1))},
		"a map, other fields in it":       {6, append(append(slices.Clone(others), pairA, pairB), others...), table(pair("a", whole(1)), pair("b", whole(2)))},
		"a map of others":                 {6, others, table()},
		"a map of pairs without anything": {6, []api.Field{bytes(1, "")}, table(api.Pair{})},
		"a map of MaxParts and others":    {6, append(lasting(num(1, 1), 1000), lasting(pairA, api.MaxParts)...), table(pair("a", whole(1)))},
	} {
		checkRead(t, name, message(t, bytes(x.n, message(t, x.l...))), x.want, api.OK)
	}
	long := table(keyed(whole(1), api.MaxParts)...)
	s, _ := value.Write(long)
	checkRead(t, "a map of MaxParts", s, long, api.OK)
}

func TestP22ReadKeysTwice(t *testing.T) {
	of := func(key string, n uint64) api.Field {
		return bytes(1, message(t, bytes(1, key), bytes(2, message(t, num(3, n)))))
	}
	bare := bytes(1, "\x12\x02\x18\x07") // of the empty key
	for name, x := range map[string]struct {
		l    []api.Field
		want []api.Pair
	}{
		"a, b, a":            {[]api.Field{of("a", 1), of("b", 2), of("a", 3)}, []api.Pair{pair("a", whole(3)), pair("b", whole(2))}},
		"a, b, b, a, c":      {[]api.Field{of("a", 1), of("b", 2), of("b", 3), of("a", 4), of("c", 5)}, []api.Pair{pair("a", whole(4)), pair("b", whole(3)), pair("c", whole(5))}},
		"b, a, a, a":         {[]api.Field{of("b", 1), of("a", 2), of("a", 3), of("a", 4)}, []api.Pair{pair("b", whole(1)), pair("a", whole(4))}},
		"an empty key":       {[]api.Field{bare, of("a", 1), bare, of("", 2)}, []api.Pair{pair("", whole(2)), pair("a", whole(1))}},
		"the last is none":   {[]api.Field{of("a", 1), bytes(1, "\x0a\x01a")}, []api.Pair{pair("a", api.Value{})}},
		"a key in two cases": {[]api.Field{of("a", 1), of("A", 2)}, []api.Pair{pair("a", whole(1)), pair("A", whole(2))}},
	} {
		inner := message(t, bytes(6, message(t, x.l...)))
		checkRead(t, name, inner, table(x.want...), api.OK)
		checkRead(t, name+", in a list", message(t, bytes(5, message(t, bytes(1, inner), bytes(1, inner)))), list(table(x.want...), table(x.want...)), api.OK)
	}
}

func TestP22ReadErrors(t *testing.T) {
	long, utf := bytes(1, strings.Repeat("a", api.MaxText+1)), bytes(1, "\xff")
	asPart := func(l ...api.Field) api.Field { return bytes(1, message(t, l...)) }
	asList := func(l ...api.Field) string { return message(t, bytes(5, message(t, l...))) }
	asMap := func(l ...api.Field) string { return message(t, bytes(6, message(t, l...))) }
	broken := func(s string) api.Field { return bytes(5, s) }
	many := lasting(asPart(utf), api.MaxParts+1)
	for name, x := range map[string]struct {
		s    string
		want api.Errno
	}{
		"no message":                       {"\x0f", api.ErrWire},
		"no message behind a value":        {"\x18\x01\x0f", api.ErrWire},
		"no number":                        {"\x18\x80", api.ErrVarint},
		"too many fields":                  {message(t, lasting(num(3, 1), api.MaxFields)...) + "\x18\x01", api.ErrMany},
		"MaxBytes + 1":                     {strings.Repeat("\x0f", api.MaxBytes+1), api.ErrLong},
		"no message ahead of a wrong text": {message(t, utf) + "\x0f", api.ErrWire},
		"a wrong text":                     {message(t, utf), api.ErrUtf},
		"a text that ends in a rune":       {message(t, bytes(1, "a\xe2\x82")), api.ErrUtf},
		"a surrogate":                      {message(t, bytes(1, "\xed\xa0\x80")), api.ErrUtf},
		"a long text":                      {message(t, long), api.ErrLong},
		"a long text that is no UTF-8":     {message(t, bytes(1, strings.Repeat("\xff", api.MaxText+1))), api.ErrLong},
		"long bytes":                       {message(t, bytes(7, strings.Repeat("\xff", api.MaxText+1))), api.ErrLong},
		"a list, no message":               {message(t, broken("\x0f")), api.ErrWire},
		"a list, no number":                {message(t, broken("\x0a")), api.ErrVarint},
		"a list with too many fields":      {message(t, broken(strings.Repeat("\x08\x01", api.MaxFields+1))), api.ErrMany},
		"a list's error behind its parts":  {message(t, broken(message(t, asPart(utf))+"\x08\x80")), api.ErrVarint},
		"a part, no message":               {asList(bytes(1, "\x0f")), api.ErrWire},
		"a part that is wrong":             {asList(asPart(num(3, 1)), asPart(utf)), api.ErrUtf},
		"parts in order":                   {asList(asPart(utf), bytes(1, "\x0f"), asPart(long)), api.ErrUtf},
		"parts in order, turned round":     {asList(asPart(long), bytes(1, "\x0f"), asPart(utf)), api.ErrLong},
		"parts in order, no message first": {asList(bytes(1, "\x08"), asPart(utf)), api.ErrVarint},
		"what is in the first part":        {asList(bytes(1, asList(asPart(long))), asPart(utf)), api.ErrLong},
		"a list of too many":               {asList(lasting(bytes(1, ""), api.MaxParts+1)...), api.ErrMany},
		"many ahead of parts":              {asList(many...), api.ErrMany},
		"no message ahead of many":         {message(t, broken(message(t, many...)+"\x0f")), api.ErrWire},
		"a map, no message":                {message(t, bytes(6, "\x0f")), api.ErrWire},
		"a map's pair, no message":         {asMap(bytes(1, "\x0f")), api.ErrWire},
		"a map's value, no message":        {asMap(asPart(bytes(1, "a"), bytes(2, "\x0f"))), api.ErrWire},
		"a map of too many":                {asMap(lasting(bytes(1, ""), api.MaxParts+1)...), api.ErrMany},
		"a map's key":                      {asMap(asPart(utf)), api.ErrUtf},
		"a map's long key":                 {asMap(asPart(long)), api.ErrLong},
		"a map's key ahead of its value":   {asMap(asPart(bytes(2, "\x0f"), utf)), api.ErrUtf},
		"a map's pair ahead of its key":    {asMap(bytes(1, message(t, utf)+"\x0f")), api.ErrWire},
		"a map's value ahead of the next":  {asMap(asPart(bytes(2, message(t, long))), asPart(utf)), api.ErrLong},
		"a map's last value":               {asMap(asPart(bytes(1, "a")), asPart(bytes(1, "b"), bytes(2, message(t, utf)))), api.ErrUtf},
	} {
		checkRead(t, name, x.s, api.Value{}, x.want)
	}
}

// around is a message with so many lists around it, or maps.
func around(t *testing.T, s string, n int, maps bool) string {
	for range n {
		if maps {
			s = message(t, bytes(6, message(t, bytes(1, message(t, bytes(2, s))))))
		} else {
			s = message(t, bytes(5, message(t, bytes(1, s))))
		}
	}
	return s
}

func TestP22ReadDepth(t *testing.T) {
	one := message(t, num(3, 1))
	checkRead(t, "MaxDepth lists", around(t, one, api.MaxDepth, false), lists(whole(1), api.MaxDepth), api.OK)
	checkRead(t, "MaxDepth maps", around(t, one, api.MaxDepth, true), maps(whole(1), api.MaxDepth), api.OK)
	for _, is := range []bool{false, true} {
		checkRead(t, "MaxDepth + 1", around(t, one, api.MaxDepth+1, is), api.Value{}, api.ErrDepth)
		checkRead(t, "many more", around(t, one, 300, is), api.Value{}, api.ErrDepth)
		for name, x := range map[string]struct {
			l    string // in what is one too deep
			want api.Errno
		}{
			"nothing":                {"", api.ErrDepth},
			"no message":             {"\x0f", api.ErrWire},
			"no number":              {"\x08\x80", api.ErrVarint},
			"too many parts":         {strings.Repeat("\x0a\x00", api.MaxParts+1), api.ErrMany},
			"MaxParts":               {strings.Repeat("\x0a\x00", api.MaxParts), api.ErrDepth},
			"a part that is none":    {"\x0a\x01\x0f", api.ErrDepth},
			"a part that is a text":  {"\x0a\x03\x0a\x01\xff", api.ErrDepth},
			"what is no part at all": {"\x12\x01\x0f", api.ErrDepth},
		} {
			for _, n := range []int{5, 6} {
				checkRead(t, "one too deep, with "+name, around(t, message(t, bytes(n, x.l)), api.MaxDepth, is), api.Value{}, x.want)
			}
		}
	}
	checkRead(t, "a wrong text at MaxDepth", around(t, "\x0a\x01\xff", api.MaxDepth, true), api.Value{}, api.ErrUtf)
}

func TestP22ReadPair(t *testing.T) {
	long := strings.Repeat("a", api.MaxText+1)
	one, two := bytes(2, "\x18\x01"), bytes(2, "\x18\x02")
	for name, x := range map[string]struct {
		l    []api.Field
		want api.Pair
		why  api.Errno
	}{
		"value ahead of key":              {[]api.Field{one, bytes(1, "a")}, pair("a", whole(1)), api.OK},
		"two keys":                        {[]api.Field{bytes(1, "a"), one, bytes(1, "b")}, pair("b", whole(1)), api.OK},
		"an empty key last":               {[]api.Field{bytes(1, "a"), one, bytes(1, "")}, pair("", whole(1)), api.OK},
		"two values":                      {[]api.Field{one, bytes(1, "a"), two}, pair("a", whole(2)), api.OK},
		"an empty value last":             {[]api.Field{one, bytes(1, "a"), bytes(2, "")}, pair("a", api.Value{}), api.OK},
		"other fields":                    {[]api.Field{bytes(1, "a"), one, num(1, 1), eight(1, 1), num(2, 1), four(2, 1), bytes(3, "\x0f"), bytes(9, "\xff")}, pair("a", whole(1)), api.OK},
		"no matter: a wrong key":          {[]api.Field{bytes(1, "\xff"), bytes(1, long), bytes(1, "a"), one}, pair("a", whole(1)), api.OK},
		"no matter: a wrong value":        {[]api.Field{bytes(2, "\x0f"), bytes(2, "\x0a\x01\xff"), two, bytes(1, "a")}, pair("a", whole(2)), api.OK},
		"a long key just may be":          {[]api.Field{bytes(1, long[1:])}, pair(long[1:], api.Value{}), api.OK},
		"a long key":                      {[]api.Field{bytes(1, long), bytes(2, "\x0f")}, api.Pair{}, api.ErrLong},
		"a long key, no UTF-8":            {[]api.Field{bytes(1, long+"\xff"), bytes(2, "\x0f")}, api.Pair{}, api.ErrLong},
		"a wrong key":                     {[]api.Field{bytes(2, "\x0f"), bytes(1, "\xff")}, api.Pair{}, api.ErrUtf},
		"a wrong value":                   {[]api.Field{bytes(1, "a"), bytes(2, "\x0a\x01\xff")}, api.Pair{}, api.ErrUtf},
		"a value that is no message":      {[]api.Field{bytes(1, "a"), bytes(2, "\x08")}, api.Pair{}, api.ErrVarint},
		"a value that is no message, too": {[]api.Field{bytes(1, "a"), bytes(2, "\x0f")}, api.Pair{}, api.ErrWire},
	} {
		p, why := value.ReadPair(message(t, x.l...))
		if !samePairs([]api.Pair{p}, []api.Pair{x.want}) || why != x.why {
			t.Errorf("ReadPair of %s: %.20q, kind %d, error %d, want error %d", name, p.Key, p.Value.Kind, why, x.why)
		}
	}
	for s, want := range map[string]api.Errno{"\x0f": api.ErrWire, "\x0a\x01\xff\x08": api.ErrVarint, "\x0a\x02a": api.ErrWire, strings.Repeat("\x0f", api.MaxBytes+1): api.ErrLong, strings.Repeat("\x08\x00", api.MaxFields+1): api.ErrMany} {
		if p, why := value.ReadPair(s); !samePairs([]api.Pair{p}, []api.Pair{{}}) || why != want {
			t.Errorf("ReadPair of %.20x: error %d, want %d", s, why, want)
		}
	}
}

func TestP25ThereAndBack(t *testing.T) {
	r := rand.New(rand.NewPCG(2, 5))
	for range 5000 {
		v := some(r, api.MaxDepth)
		s, why := value.Write(v)
		if why == api.ErrLong {
			continue
		}
		checkErr(t, "Write", why, api.OK)
		back, why := value.Read(s)
		if !same(back, v) || why != api.OK {
			t.Errorf("Read of Write of %v: %v, error %d", v, back, why)
		}
		p := pair([]string{"", "a", "é"}[r.IntN(3)], some(r, 3))
		s, why = value.WritePair(p)
		checkErr(t, "WritePair", why, api.OK)
		backPair, why := value.ReadPair(s)
		if !samePairs([]api.Pair{backPair}, []api.Pair{p}) || why != api.OK {
			t.Errorf("ReadPair of WritePair of %v: %v, error %d", p, backPair, why)
		}
	}
}

func TestP25WhatIsReadIsRight(t *testing.T) {
	r := rand.New(rand.NewPCG(2, 2))
	for range 20000 {
		s, _ := value.Write(some(r, 4))
		b := []byte(s)
		for range r.IntN(3) {
			if len(b) > 0 {
				b[r.IntN(len(b))] = byte(r.Uint32())
			}
		}
		v, why := value.Read(string(b))
		if why != api.OK {
			if !same(v, api.Value{}) {
				t.Errorf("Read of %x: %v beside error %d", b, v, why)
			}
			continue
		}
		checkErr(t, "Check of what is read", value.Check(v), api.OK)
	}
}
