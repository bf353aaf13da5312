package trace_test

import (
	"math"
	"math/rand/v2"
	"slices"
	"strconv"
	"strings"
	"testing"

	"penstock/api"
	"penstock/trace"
)

func TestP52Groups(t *testing.T) {
	l := pairs(pair("a", whole(1)))
	resource := bytes(1, pairsOf(1, l))
	for _, s := range signals() {
		record := bytes(2, layout{}.record(one(s), s))
		for name, x := range map[string]struct {
			request string
			want    []api.Group
		}{
			"nothing":                       {"", nil},
			"a group without scoped":        {bytes(1, ""), nil},
			"a resource without scoped":     {bytes(1, resource), nil},
			"a group, one without scoped":   {bytes(1, bytes(2, "")) + bytes(1, resource) + bytes(1, bytes(2, "")), make([]api.Group, 2)},
			"two of a group":                {bytes(1, bytes(2, bytes(1, bytes(1, "s")))+resource+bytes(2, record)), []api.Group{{Resource: l, Scope: "s"}, {Resource: l, Items: []api.Item{one(s)}}}},
			"two of a group, and of others": {bytes(1, bytes(2, record)+bytes(2, record)) + bytes(1, resource+bytes(2, "")), []api.Group{items(one(s)), items(one(s)), {Resource: l}}},
			"a resource behind it":          {bytes(1, bytes(2, "")+resource), []api.Group{{Resource: l}}},
			"a scope behind its records":    {inGroup(record + bytes(1, bytes(2, "v")) + record), []api.Group{{Version: "v", Items: []api.Item{one(s), one(s)}}}},
			"a resource of nothing":         {bytes(1, bytes(1, "")+bytes(2, "")), make([]api.Group, 1)},
			"a scope of nothing":            {inGroup(bytes(1, "")), make([]api.Group, 1)},
			"groups that are alike":         {bytes(1, bytes(2, record)) + bytes(1, bytes(2, record)), []api.Group{items(one(s)), items(one(s))}},
		} {
			checkRead(t, name, x.request, data(s, x.want...))
		}
	}
}

func TestP52RecordsWithoutAnything(t *testing.T) {
	checkRead(t, "an empty log", inScope(""), data(api.SignalLog, items(api.Item{})))
	checkRefused(t, "an empty span", inScope(""), api.SignalTrace, api.ErrRange)
}

func TestP52LongVarints(t *testing.T) {
	record := "\x92\x00\x82\x80\x00" + "\x08\x01" // a field that logs have not
	scoped := "\x92\x80\x00\x87\x00" + record
	checkRead(t, "varints that are longer than they must be", "\x8a\x00\x8c\x80\x80\x00"+scoped, data(api.SignalLog, items(api.Item{})))
}

func TestP52OtherSignals(t *testing.T) {
	for _, as := range []api.Signal{api.SignalNone, api.SignalMetric, api.SignalCount, 255} {
		for _, s := range []string{"", "\x0f", "\xff", request(full(api.SignalLog)), strings.Repeat("\xff", api.MaxBytes+1)} {
			checkRefused(t, "signal "+strconv.Itoa(int(as)), s, as, api.ErrType)
		}
	}
}

// TestP52LastFields has each field of one thing there twice: the last one counts, whatever is in the others.
func TestP52LastFields(t *testing.T) {
	l := pairs(pair("z", whole(9)))
	ahead := map[string]string{
		"group":  bytes(1, "\x0f"),
		"scoped": bytes(1, "\xff"),
		"scope":  bytes(1, "other") + bytes(2, "\xff"),
		"span": bytes(1, "other") + bytes(2, "other") + bytes(4, "other") + bytes(5, "\xff") + varint(6, 99) + eight(7, 99) + eight(8, 99) +
			bytes(15, "\x0f") + bytes(15, bytes(2, "other")+varint(3, 2)),
		"status": bytes(2, "\xff") + varint(3, 99),
		"log":    eight(1, 99) + varint(2, 99) + bytes(3, "\xff") + bytes(5, "\x0f") + bytes(5, valueOf(text("other"))) + bytes(9, "other") + bytes(10, "other") + eight(11, 99),
	}
	behind := map[string]string{
		"group":  bytes(1, pairsOf(1, l)),
		"scoped": bytes(1, bytes(1, "n")+bytes(2, "w")+pairsOf(3, l)),
		"span": bytes(1, strings.Repeat("t", 16)) + bytes(2, strings.Repeat("s", 8)) + bytes(4, "") + bytes(5, "") + varint(6, 0) + eight(7, 0) + eight(8, 0) +
			bytes(15, bytes(2, "n")),
		"log": eight(1, 0) + varint(2, 0) + bytes(3, "") + bytes(5, "") + bytes(9, "") + bytes(10, "") + eight(11, 0),
	}
	for _, s := range signals() {
		d := full(s)
		for name, more := range ahead {
			checkRead(t, "two fields of a "+name, layout{ahead: map[string]string{name: more}}.request(d), d)
		}
		checkRead(t, "two fields of all", layout{ahead: ahead}.request(d), d)
		for i := range d.Groups {
			g := &d.Groups[i]
			g.Resource, g.Scope, g.Version, g.Attrs = l, "n", "w", l
			g.Items = slices.Clone(g.Items)
			for j := range g.Items {
				x := api.Item{Attrs: g.Items[j].Attrs}
				if s == api.SignalTrace {
					x.Trace, x.Span, x.Message = strings.Repeat("t", 16), strings.Repeat("s", 8), "n"
				}
				g.Items[j] = x
			}
		}
		checkRead(t, "others behind all", layout{behind: behind}.request(full(s)), d)
	}
}

// places is which fields the messages have, by the document's table: each number's wire.
func places() map[string]map[int]int {
	return map[string]map[int]int{
		"request":  {1: 2},
		"group":    {1: 2, 2: 2},
		"resource": {1: 2},
		"scoped":   {1: 2, 2: 2},
		"scope":    {1: 2, 2: 2, 3: 2},
		"span":     {1: 2, 2: 2, 4: 2, 5: 2, 6: 0, 7: 1, 8: 1, 9: 2, 15: 2},
		"status":   {2: 2, 3: 0},
		"log":      {1: 1, 2: 0, 3: 2, 5: 2, 6: 2, 9: 2, 10: 2, 11: 1},
	}
}

// fields is a field of that number of each wire, but for one; bytes are no message, no UTF-8.
func fields(number, but int) string {
	s := ""
	for wire, field := range map[int]string{0: varint(number, math.MaxUint64), 1: eight(number, math.MaxUint64), 2: bytes(number, "\xff"), 5: four(number, math.MaxUint32)} {
		if wire != but {
			s += field
		}
	}
	return s
}

func TestP58UnknownFields(t *testing.T) {
	numbers := []int{18, 99, 1 << 20, api.MaxNum}
	for i := range 17 {
		numbers = append(numbers, i+1)
	}
	for _, s := range signals() {
		d := full(s)
		all := map[string]string{}
		for name, known := range places() {
			for _, n := range numbers {
				but, is := known[n]
				if !is {
					but = -1
				}
				more := fields(n, but)
				all[name] += more
				one := map[string]string{name: more}
				checkRead(t, "a field "+strconv.Itoa(n)+" ahead of a "+name, layout{ahead: one}.request(d), d)
				checkRead(t, "a field "+strconv.Itoa(n)+" behind a "+name, layout{behind: one}.request(d), d)
			}
		}
		checkRead(t, "fields about all", layout{all, all}.request(d), d)
	}
}

func TestP52KeysThatComeAgain(t *testing.T) {
	again := pairs(pair("a", whole(1)), pair("b", text("x")), pair("", whole(2)), pair("a", part(minus)), pair("c", api.Value{}), pair("", api.Value{}), pair("a", text("y")))
	want := pairs(pair("a", text("y")), pair("b", text("x")), pair("", api.Value{}), pair("c", api.Value{}))
	for _, s := range signals() {
		d := data(s, api.Group{Resource: again, Attrs: again, Items: []api.Item{one(s)}})
		d.Groups[0].Items[0].Attrs = again
		wanted := data(s, api.Group{Resource: want, Attrs: want, Items: []api.Item{one(s)}})
		wanted.Groups[0].Items[0].Attrs = want
		checkRead(t, "keys that come again", request(d), wanted)
	}
}

func TestP52ManyPairs(t *testing.T) {
	var l []api.Pair
	for i := range api.MaxParts {
		l = append(l, pair("k"+strconv.Itoa(i), whole(int64(i))))
	}
	more := append(slices.Clone(l), pair("k0", whole(-1)))
	again := slices.Clone(l)
	again[0].Value = whole(-1)
	for _, s := range signals() {
		for place, with := range map[string]func([]api.Pair) api.Data{
			"a resource": func(l []api.Pair) api.Data { return data(s, api.Group{Resource: l}) },
			"a scope":    func(l []api.Pair) api.Data { return data(s, api.Group{Attrs: l}) },
			"a record": func(l []api.Pair) api.Data {
				x := one(s)
				x.Attrs = l
				return data(s, items(x))
			},
		} {
			checkRead(t, "MaxParts pairs of "+place, request(with(l)), with(l))
			checkRead(t, "MaxParts keys, and one again, of "+place, request(with(more)), with(again))
			checkRefused(t, "MaxParts + 1 pairs of "+place, request(with(append(slices.Clone(l), pair("", whole(1))))), s, api.ErrMany)
		}
	}
}

// TestP52GreatKinds has numbers that would be a kind, a code, if their low bits alone were taken.
func TestP52GreatKinds(t *testing.T) {
	for _, n := range []uint64{1 << 31, 1<<31 + 1, 1 << 32, 1<<32 + 1, 1<<63 + 1, math.MaxUint64, 1<<31 - 1, 1 << 8} {
		checkRefused(t, "a span of kind "+strconv.FormatUint(n, 10), layout{behind: map[string]string{"span": varint(6, n)}}.request(full(api.SignalTrace)), api.SignalTrace, api.ErrRange)
		checkRefused(t, "a log of kind "+strconv.FormatUint(n, 10), layout{behind: map[string]string{"log": varint(2, n)}}.request(full(api.SignalLog)), api.SignalLog, api.ErrRange)
	}
	for _, n := range []uint64{3, 255, 256, 257, 258, 1 << 31, 1 << 32, 1<<32 + 1, 1 << 63, math.MaxUint64} {
		checkRefused(t, "a code "+strconv.FormatUint(n, 10), layout{behind: map[string]string{"status": varint(3, n)}}.request(full(api.SignalTrace)), api.SignalTrace, api.ErrRange)
	}
	for _, n := range []uint64{0, 1, 5} {
		d := data(api.SignalTrace, items(api.Item{Trace: aTrace, Span: aSpan, Kind: int32(n), Code: uint8(min(n, 2))}))
		checkRead(t, "a kind that may be", request(d), d)
	}
	checkRefused(t, "kind 6 of a span", request(data(api.SignalTrace, items(api.Item{Trace: aTrace, Span: aSpan, Kind: 6}))), api.SignalTrace, api.ErrRange)
	checkRefused(t, "kind 25 of a log", request(data(api.SignalLog, items(api.Item{Kind: 25}))), api.SignalLog, api.ErrRange)
}

// steps is the parts of a request in the order in which they are read, each with what stands behind it.
func steps() []string {
	l := []string{"request"}
	for _, g := range []string{"a", "b"} {
		l = append(l, g, g+" resource", g+" resource 1", g+" resource 2")
		for _, scoped := range []string{g + "x", g + "y"} {
			l = append(l, scoped, scoped+" scope", scoped+" scope 1", scoped+" scope 2")
			for _, record := range []string{scoped + "1", scoped + "2"} {
				l = append(l, record, record+" pair 1", record+" pair 2", record+" last")
			}
		}
	}
	return l
}

// stepped is a request with those parts; behind each stands what is handed in for its name.
func stepped(s api.Signal, behind map[string]string) string {
	place := map[api.Signal][2]int{api.SignalTrace: {9, 15}, api.SignalLog: {6, 5}}[s] // of a record's pairs, of what is last
	two := func(number int, name string) string {
		return bytes(number, bytes(1, "k")+behind[name+"1"]) + bytes(number, bytes(1, "l")+behind[name+"2"])
	}
	groups := ""
	for _, g := range []string{"a", "b"} {
		group := ""
		for _, scoped := range []string{g + "x", g + "y"} {
			records := ""
			for _, record := range []string{scoped + "1", scoped + "2"} {
				// what is read last stands ahead of all in the bytes
				records += bytes(2, bytes(place[1], behind[record+" last"])+two(place[0], record+" pair ")+layout{}.record(one(s), s)+behind[record])
			}
			group += bytes(2, records+bytes(1, two(3, scoped+" scope ")+bytes(2, "\xff")+behind[scoped+" scope"])+behind[scoped])
		}
		groups += bytes(1, group+bytes(1, two(1, g+" resource ")+behind[g+" resource"])+behind[g])
	}
	return groups + behind["request"]
}

// TestP52FirstError has something wrong from one part on, to the end: the error is that part's. What is read has a version, too, that is no UTF-8.
func TestP52FirstError(t *testing.T) {
	for _, s := range signals() {
		checkRefused(t, "what is not right, when all is read", stepped(s, nil), s, api.ErrUtf)
		for i, name := range steps() {
			for bad, want := range map[string]api.Errno{"\x08": api.ErrVarint, "\x0f": api.ErrWire} {
				other := map[string]string{"\x08": "\x0f", "\x0f": "\x08"}[bad]
				behind := map[string]string{name: bad}
				checkRefused(t, "a bad "+name, stepped(s, behind), s, want)
				for _, later := range steps()[i+1:] {
					behind[later] = other
				}
				checkRefused(t, "a bad "+name+", and all that is read behind it", stepped(s, behind), s, want)
			}
		}
	}
}

// TestP52ErrorsOfParts has errors that wire.Read, value.ReadPair and value.Read tell, each ahead of those of what was read.
func TestP52ErrorsOfParts(t *testing.T) {
	long := strings.Repeat("x", api.MaxText+1)
	values := map[string]api.Errno{
		bytes(1, "\xff"): api.ErrUtf,
		bytes(1, long):   api.ErrLong,
		bytes(5, strings.Repeat(bytes(1, ""), api.MaxParts+1)): api.ErrMany,
		bytes(5, "\x0f"): api.ErrWire,
		"\x08":           api.ErrVarint,
		"\x0a\x02x":      api.ErrWire,
		strings.Repeat("\x10\x01", api.MaxFields+1): api.ErrMany,
	}
	deep := bytes(1, "x")
	for range api.MaxDepth + 1 {
		deep = bytes(5, bytes(1, deep))
	}
	values[deep] = api.ErrDepth
	early := bytes(1, bytes(2, bytes(1, bytes(2, "\xff")))) // a group that is not right, once it is read
	for s, want := range values {
		checkRefused(t, "a Body", early+inScope(bytes(5, s)), api.SignalLog, want)
		for _, as := range signals() {
			p := bytes(1, "k") + bytes(2, s)
			checkRefused(t, "a pair of a resource", early+bytes(1, bytes(1, bytes(1, p))), as, want)
			checkRefused(t, "a pair of a scope", early+inGroup(bytes(1, bytes(3, p))), as, want)
			checkRefused(t, "a pair of a record", early+inScope(bytes(map[api.Signal]int{api.SignalTrace: 9, api.SignalLog: 6}[as], p)), as, want)
			checkRefused(t, "a pair that comes again", early+bytes(1, bytes(1, bytes(1, p)+bytes(1, bytes(1, "k")))), as, want)
		}
	}
	for _, as := range signals() {
		checkRefused(t, "a key that is no UTF-8", early+bytes(1, bytes(1, bytes(1, bytes(1, "\xff")))), as, api.ErrUtf)
		checkRefused(t, "a key that is too long", early+bytes(1, bytes(1, bytes(1, bytes(1, long)))), as, api.ErrLong)
	}
}

func TestP52Limits(t *testing.T) {
	for _, s := range signals() {
		record := bytes(2, layout{}.record(one(s), s))
		fill := bytes(9, strings.Repeat("x", api.MaxBytes-4))
		checkRead(t, "MaxBytes", fill, data(s))
		checkRefused(t, "MaxBytes + 1", bytes(9, strings.Repeat("x", api.MaxBytes-3)), s, api.ErrLong)
		checkRefused(t, "MaxBytes + 1 that are no message", strings.Repeat("\xff", api.MaxBytes+1), s, api.ErrLong)
		for name, inner := range map[string]func(string) string{
			"request": func(s string) string { return s },
			"group":   func(s string) string { return bytes(1, s) },
			"scoped":  func(s string) string { return inGroup(s) },
			"record":  func(s string) string { return inScope(s) },
		} {
			most := strings.Repeat("\x98\x06\x01", api.MaxFields) // a varint 99
			checkRefused(t, "MaxFields + 1 of a "+name, inner(most+"\x98\x06\x01"), s, api.ErrMany)
			d, why := trace.Read(inner(most), s)
			if name == "record" && s == api.SignalTrace {
				checkErr(t, "MaxFields of a record", why, api.ErrRange)
				continue
			}
			checkErr(t, "MaxFields of a "+name, why, api.OK)
			if d.Signal != s {
				t.Errorf("MaxFields of a %s: signal %d", name, d.Signal)
			}
		}
		checkRefused(t, "MaxItems + 1", inGroup(strings.Repeat(record, api.MaxItems+1)), s, api.ErrMany)
		checkRefused(t, "MaxItems + 1 of two", bytes(1, bytes(2, strings.Repeat(record, api.MaxItems))+bytes(2, record)), s, api.ErrMany)
		checkRefused(t, "MaxGroups + 1", strings.Repeat(inGroup(""), api.MaxGroups+1), s, api.ErrMany)
		checkRefused(t, "MaxGroups + 1 of one", bytes(1, strings.Repeat(bytes(2, ""), api.MaxGroups+1)), s, api.ErrMany)
		checkRead(t, "MaxGroups of one", bytes(1, strings.Repeat(bytes(2, ""), api.MaxGroups)), data(s, make([]api.Group, api.MaxGroups)...))
		checkRead(t, "as many as there may be without scoped", strings.Repeat(bytes(1, ""), api.MaxFields), data(s))
		long := one(s)
		long.Name = strings.Repeat("x", api.MaxText+1)
		checkRefused(t, "MaxText + 1", request(data(s, items(long))), s, api.ErrLong)
		checkRefused(t, "MaxText + 1 of a scope", request(data(s, api.Group{Scope: long.Name})), s, api.ErrLong)
	}
}

// TestP52WhatIsNotRight has data that can be read, but are not right: pdata.Check's first error.
func TestP52WhatIsNotRight(t *testing.T) {
	span := func(set func(*api.Item)) api.Item {
		x := one(api.SignalTrace)
		set(&x)
		return x
	}
	for name, x := range map[string]struct {
		s    api.Signal
		item api.Item
		want api.Errno
	}{
		"a Name that is no UTF-8":      {api.SignalLog, api.Item{Name: "\xff"}, api.ErrUtf},
		"a Trace of 15 bytes":          {api.SignalLog, api.Item{Trace: aTrace[:15]}, api.ErrRange},
		"a Span of 9 bytes":            {api.SignalLog, api.Item{Span: aSpan + "8"}, api.ErrRange},
		"a span's Trace of 15 bytes":   {api.SignalTrace, span(func(x *api.Item) { x.Trace = aTrace[:15] }), api.ErrRange},
		"a span's Trace of none":       {api.SignalTrace, span(func(x *api.Item) { x.Trace = "" }), api.ErrRange},
		"a span's Span of 7 bytes":     {api.SignalTrace, span(func(x *api.Item) { x.Span = aSpan[:7] }), api.ErrRange},
		"a span's Parent of 7 bytes":   {api.SignalTrace, span(func(x *api.Item) { x.Parent = aSpan[:7] }), api.ErrRange},
		"a Message that is no UTF-8":   {api.SignalTrace, span(func(x *api.Item) { x.Message = "\xff" }), api.ErrUtf},
		"a Name, then a Trace":         {api.SignalTrace, span(func(x *api.Item) { x.Name, x.Trace = "\xff", "" }), api.ErrUtf},
		"a Message that is long, Kind": {api.SignalTrace, span(func(x *api.Item) { x.Message, x.Kind = strings.Repeat("m", api.MaxText+1), 9 }), api.ErrLong},
	} {
		checkRefused(t, name, request(data(x.s, items(one(x.s)), items(x.item))), x.s, x.want)
	}
}

func TestP55ThereAndBack(t *testing.T) {
	r := rand.New(rand.NewPCG(5, 5))
	for _, s := range signals() {
		l := []api.Data{data(s), data(s, api.Group{}), full(s)}
		for range 1000 {
			l = append(l, some(r, s))
		}
		for _, d := range l {
			written, why := trace.Write(d)
			checkErr(t, "Write", why, api.OK)
			checkRead(t, "what is written", written, d)
		}
	}
}

func TestP57InParts(t *testing.T) {
	r := rand.New(rand.NewPCG(5, 7))
	for _, s := range signals() {
		for range 500 {
			a, b := some(r, s), some(r, s)
			first, _ := trace.Write(a)
			second, _ := trace.Write(b)
			checkRead(t, "two behind one another", first+second, data(s, slices.Concat(a.Groups, b.Groups)...))
		}
		written, _ := trace.Write(full(s))
		checkRead(t, "one twice", written+written, data(s, slices.Concat(full(s).Groups, full(s).Groups)...))
	}
}

// TestP5Bits has floats that only their bits tell apart, in each place.
func TestP5Bits(t *testing.T) {
	for _, bits := range []uint64{0, 1 << 63, 0x7ff0000000000001, 0x7ff8000000000000, 0x7ff8000000000001, 0xfff8000000001234, math.MaxUint64, 1} {
		f := part(math.Float64frombits(bits))
		l := pairs(pair("f", f), pair("l", list(f, table(pair("", f)))))
		for _, s := range signals() {
			x := one(s)
			x.Attrs = l
			if s == api.SignalLog {
				x.Body = list(f)
			}
			d := data(s, api.Group{Resource: l, Attrs: l, Items: []api.Item{x}})
			written, why := trace.Write(d)
			checkErr(t, "Write of floats", why, api.OK)
			checkRead(t, "floats", written, d)
		}
	}
}

func TestP54NewMemory(t *testing.T) {
	for _, s := range signals() {
		d := full(s)
		before, room := full(s), slices.Clone(d.Groups[:cap(d.Groups)])
		written, _ := trace.Write(d)
		if !same(d, before) || !same(room, d.Groups[:cap(d.Groups)]) {
			t.Error("Write: what was handed in is changed")
		}
		spoil(d)
		if again, _ := trace.Write(before); again != written {
			t.Error("Write: what was handed in is kept")
		}
		two := bytes(1, bytes(1, pairsOf(1, before.Groups[0].Resource))+bytes(2, "")+bytes(2, bytes(1, pairsOf(3, before.Groups[0].Attrs)))+bytes(2, ""))
		for name, request := range map[string]string{"what is written": written, "groups of one resource": two} {
			first, _ := trace.Read(request, s)
			second, _ := trace.Read(request, s)
			if len(first.Groups) != 3 || len(first.Groups[2].Resource) == 0 {
				t.Errorf("Read of %s: %v", name, first)
			}
			checkApart(t, name, first, second)
			spoil(first)
			third, why := trace.Read(request, s)
			if !same(second, third) || why != api.OK {
				t.Errorf("Read of %s: an earlier answer is kept", name)
			}
		}
	}
}

// TestP1AnyBytes has bytes that are right but for a few of them, and any bytes at all.
func TestP1AnyBytes(t *testing.T) {
	r := rand.New(rand.NewPCG(5, 11))
	for range 6000 {
		s := signals()[r.IntN(2)]
		b := []byte(request(some(r, s)))
		for range r.IntN(4) {
			if len(b) > 0 {
				b[r.IntN(len(b))] = byte(r.Uint32())
			}
		}
		b = b[:len(b)-r.IntN(2)*r.IntN(len(b)+1)]
		d, why := trace.Read(string(b), s)
		if why != api.OK && !same(d, api.Data{}) {
			t.Errorf("Read of %x: %v beside error %d", b, d, why)
		}
		if why != api.OK {
			continue
		}
		written, why := trace.Write(d)
		checkErr(t, "Write of what was read", why, api.OK)
		checkRead(t, "what was read", written, d)
		p, why := trace.ReadReply(string(b))
		if why != api.OK && p != (api.Partial{}) {
			t.Errorf("ReadReply of %x: %v beside error %d", b, p, why)
		}
	}
}

// TestP1Many has requests that are long in what is nested, or stands behind one another.
func TestP1Many(t *testing.T) {
	deep := nested(1<<16 - 20)
	for _, d := range []api.Data{data(api.SignalLog, items(api.Item{Body: deep})), data(api.SignalLog, items(api.Item{Attrs: pairs(pair("a", deep))})), data(api.SignalTrace, api.Group{Resource: pairs(pair("a", deep))})} {
		checkWrite(t, "what is nested deep", d, "", api.ErrDepth)
	}
	part := strings.Repeat(bytes(1, ""), api.MaxParts)
	wide := bytes(1, bytes(2, bytes(5, strings.Repeat(bytes(1, bytes(5, part)), 90))))
	for _, s := range signals() {
		checkRefused(t, "many scoped of a great resource", bytes(1, bytes(1, wide)+strings.Repeat(bytes(2, ""), 4000)), s, api.ErrMany)
		checkRefused(t, "many records", inGroup(strings.Repeat(bytes(2, ""), api.MaxFields)), s, api.ErrMany)
	}
	keys := ""
	for i := range api.MaxFields {
		keys += bytes(1, bytes(1, strconv.Itoa(i)))
	}
	checkRefused(t, "many pairs", bytes(1, bytes(1, keys)+bytes(2, "")), api.SignalLog, api.ErrMany)
	nest := ""
	for len(nest) < api.MaxBytes-1000 {
		nest = bytes(5, bytes(1, nest))
	}
	checkRefused(t, "a Body that is nested deep", inScope(bytes(5, nest)), api.SignalLog, api.ErrDepth)
}

func TestP3AlwaysTheSame(t *testing.T) {
	bad := stepped(api.SignalTrace, map[string]string{"ax": "\x0f", "bx": "\x08"})
	for range 50 {
		for _, s := range signals() {
			d := full(s)
			d.Groups = append(make([]api.Group, 0, 100), d.Groups...)
			checkWrite(t, "one that has other room", d, request(full(s)), api.OK)
		}
		checkRefused(t, "two errors", bad, api.SignalTrace, api.ErrWire)
	}
}
