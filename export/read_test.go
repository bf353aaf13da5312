package export_test

import (
	"fmt"
	"slices"
	"strings"
	"testing"

	"penstock/api"
	"penstock/conf"
	"penstock/export"
)

func checkRead(t *testing.T, name string, n api.Node, want api.ExportRules, wantWhy api.Errno) {
	t.Helper()
	r, why := export.Read(n)
	if r != want || why != wantWhy {
		t.Errorf("Read of %s: %+v, error %d\nwant %+v, error %d", name, r, why, want, wantWhy)
	}
}

func TestP181Read(t *testing.T) {
	const hours = 3600000
	for s, want := range map[string]api.ExportRules{
		"":                     rules(8, 4096, 1, 100, 1000, 10000),
		"queue:2":              rules(2, 4096, 1, 100, 1000, 10000),
		"queue:1":              rules(1, 4096, 1, 100, 1000, 10000),
		"queue:1024":           rules(1024, 4096, 1, 100, 1000, 10000),
		"queue:0002":           rules(2, 4096, 1, 100, 1000, 10000),
		"file:1":               rules(8, 1, 1, 100, 1000, 10000),
		"file:1B":              rules(8, 1, 1, 100, 1000, 10000),
		"file:000000007":       rules(8, 7, 1, 100, 1000, 10000),
		"file:4KiB":            rules(8, 4096, 1, 100, 1000, 10000),
		"file:256KiB":          rules(8, 262144, 1, 100, 1000, 10000),
		"file:262144":          rules(8, 262144, 1, 100, 1000, 10000),
		"consumers:1":          rules(8, 4096, 1, 100, 1000, 10000),
		"consumers:9":          rules(8, 4096, 9, 100, 1000, 10000),
		"first:1ms":            rules(8, 4096, 1, 1, 1000, 10000),
		"first:1s":             rules(8, 4096, 1, 1000, 1000, 10000),
		"first:007ms":          rules(8, 4096, 1, 7, 1000, 10000),
		"most:100ms":           rules(8, 4096, 1, 100, 100, 10000),
		"most:999999999h":      rules(8, 4096, 1, 100, 999999999*hours, 10000),
		"total:0ms":            rules(8, 4096, 1, 100, 1000, 0),
		"total:0h":             rules(8, 4096, 1, 100, 1000, 0),
		"total:999999999h":     rules(8, 4096, 1, 100, 1000, 999999999*hours),
		"total:1ms":            rules(8, 4096, 1, 100, 1000, 1),
		"first:2s most:2s":     rules(8, 4096, 1, 2000, 2000, 10000),
		"most:2m first:1m":     rules(8, 4096, 1, 60000, 120000, 10000),
		"queue:3 consumers:2":  rules(3, 4096, 2, 100, 1000, 10000),
		"first:5ms most:800ms": rules(8, 4096, 1, 5, 800, 10000),
		"queue:3 file:5 consumers:2 first:1s most:3s total:1m": rules(3, 5, 2, 1000, 3000, 60000),
		"total:1m most:3s first:1s consumers:2 file:5 queue:3": rules(3, 5, 2, 1000, 3000, 60000),
	} {
		checkRead(t, s, node(strings.Fields(s)...), want, api.OK)
	}
}

// TestP181ReadMissing has each choice of keys, forwards and backwards.
func TestP181ReadMissing(t *testing.T) {
	for which := range 1 << 6 {
		want := rules(8, 4096, 1, 100, 1000, 10000)
		var l []string
		for i, take := range []func() string{
			func() string { want.Most = 3; return "queue:3" },
			func() string { want.File = 5; return "file:5" },
			func() string { want.Consumers = 2; return "consumers:2" },
			func() string { want.Retry.First = 50; return "first:50ms" },
			func() string { want.Retry.Most = 3000; return "most:3s" },
			func() string { want.Retry.Total = 60000; return "total:1m" },
		} {
			if which>>i&1 == 1 {
				l = append(l, take())
			}
		}
		checkRead(t, fmt.Sprint(l), node(l...), want, api.OK)
		slices.Reverse(l)
		checkRead(t, fmt.Sprint(l), node(l...), want, api.OK)
	}
}

func TestP181ReadRange(t *testing.T) {
	for _, s := range []string{
		"queue:0", "queue:0000", "queue:1025", "queue:9999", "file:0", "file:0GiB", "file:262145", "file:257KiB", "file:1MiB", "file:1GiB", "file:999999999GiB", "file:4194304KiB", "file:16777216GiB", "file:999999999MiB",
		"consumers:0", "first:0ms", "first:0h", "first:1001ms", "first:2s", "most:0ms", "most:99ms", "first:2s most:1999ms", "most:1ms", "first:999999999h", "queue:8 file:0 consumers:0", "first:0ms most:0ms total:0ms",
	} {
		checkRead(t, s, node(strings.Fields(s)...), api.ExportRules{}, api.ErrRange)
		for _, more := range []string{"total:1", "x:y", "kind:", "total:", "total:s"} { // what is ErrConf comes ahead
			checkRead(t, s+" "+more, node(append(strings.Fields(s), more)...), api.ExportRules{}, api.ErrConf)
			checkRead(t, more+" "+s, node(append([]string{more}, strings.Fields(s)...)...), api.ExportRules{}, api.ErrConf)
		}
	}
}

// checkConf tells that a text is none of that key, whatever else is there.
func checkConf(t *testing.T, k, s string) {
	t.Helper()
	checkRead(t, k+" "+s, mapNode(key(k, textNode(s))), api.ExportRules{}, api.ErrConf)
	other := "queue"
	if k == other {
		other = "total"
	}
	for _, l := range [][]api.Keyed{
		{key(other, textNode("1s")), key(k, textNode(s))},
		{key(k, textNode(s)), key(other, textNode("1"))},
		{key("consumer", textNode("1")), key(k, textNode(s))},
	} {
		checkRead(t, k+" "+s+", and more", mapNode(l...), api.ExportRules{}, api.ErrConf)
	}
}

func TestP181ReadConf(t *testing.T) {
	for _, k := range []string{"queue", "consumers"} {
		for _, s := range []string{"", " ", "x", "8x", "x8", " 8", "8 ", "+8", "-8", "-0", "+0", "00008", "00000", "10240", "99999", "8.0", "8,0", "1e1", "0x8", "0b1", "1_0", "_8", "8_", "٨", "８", "8ms", "8B", "8\n", "\t8", "1 0", strings.Repeat("0", 100), strings.Repeat("9", 30)} {
			checkConf(t, k, s)
		}
	}
	for _, s := range []string{"00", "01", "10", "11", "99", "100", "0001"} {
		checkConf(t, "consumers", s)
	}
	for _, s := range []string{"", " ", "x", "B", "KiB", "-1", "+1", " 1", "1 ", "1 B", "1.5KiB", "1b", "1kib", "1KB", "1K", "1kB", "1TiB", "1ms", "0x1", "1_0", "1000000000", "0000000001", "9999999999B", "1KiB1B", "B1", "１"} {
		checkConf(t, "file", s)
	}
	for _, k := range []string{"first", "most", "total"} {
		for _, s := range []string{"", " ", "x", "1", "0", "100", "s", "ms", "-1s", "+1s", " 1s", "1s ", "1 s", "1.5s", "1S", "1Ms", "1MS", "1d", "1us", "1sec", "0x1s", "1_0s", "1000000000ms", "0000000001ms", "1s1ms", "s1", "１s", "1KiB"} {
			checkConf(t, k, s)
		}
	}
}

func TestP181ReadKinds(t *testing.T) {
	for _, k := range []string{"queue", "file", "consumers", "first", "most", "total"} {
		for i, n := range []api.Node{listNode(), listNode("8"), listNode("1s"), mapNode(), mapNode(key("8", textNode("8"))), mapNode(key("queue", textNode("8")))} {
			checkRead(t, fmt.Sprint(k, " that is no text, ", i), mapNode(key(k, n)), api.ExportRules{}, api.ErrConf)
		}
	}
	for _, k := range []string{"Queue", "queues", "File", "files", "size", "Consumers", "consumer", "First", "min", "max", "Most", "wait", "Total", "kind", "on", "a", "retry", "endpoint"} {
		for _, n := range []api.Node{textNode("8"), textNode("1s"), textNode(""), listNode(), mapNode()} {
			checkRead(t, "another key", mapNode(key(k, n)), api.ExportRules{}, api.ErrConf)
			checkRead(t, "another key, behind", mapNode(key("queue", textNode("2")), key(k, n)), api.ExportRules{}, api.ErrConf)
			checkRead(t, "another key, ahead", mapNode(key(k, n), key("total", textNode("1s"))), api.ExportRules{}, api.ErrConf)
		}
	}
}

// TestP181ReadNode has nodes that conf.Check refuses.
func TestP181ReadNode(t *testing.T) {
	for name, n := range map[string]api.Node{
		"a text":           textNode("8"),
		"a list":           listNode("8"),
		"no kind":          {Kind: api.NodeCount},
		"a key twice":      node("queue:2", "queue:2"),
		"a map with more":  {Text: "8"},
		"no key":           node("queue:2", ":x"),
		"a text with more": mapNode(key("queue", api.Node{Kind: api.NodeText, Text: "2", List: []string{"x"}})),
		"a file that is 9": mapNode(key("file", api.Node{Kind: 9, Text: "9"})),
	} {
		if why := conf.Check(n); why != api.ErrConf {
			t.Fatalf("%s is right", name)
		}
		checkRead(t, name, n, api.ExportRules{}, api.ErrConf)
	}
	n, why, _ := conf.Parse("queue: 16 # entries\nfile: 8KiB\nconsumers: 2\nfirst: 50ms\nmost: \"5s\"\ntotal: 1m\n")
	if why != api.OK {
		t.Fatalf("Parse: error %d", why)
	}
	checkRead(t, "a config", n, rules(16, 8192, 2, 50, 5000, 60000), api.OK)
}

// TestP181ReadAll has all numbers of one digit to five.
func TestP181ReadAll(t *testing.T) {
	for n := range 11000 {
		s := fmt.Sprint(n)
		want, why := rules(n, 4096, 1, 100, 1000, 10000), api.OK
		wantConsumers, whyConsumers := rules(8, 4096, n, 100, 1000, 10000), api.OK
		wantFirst, whyFirst := rules(8, 4096, 1, uint64(n), 1000, 10000), api.OK
		if n < 1 || n > 1024 {
			want, why = api.ExportRules{}, api.ErrRange
		}
		if n < 1 || n > 9 {
			wantConsumers, whyConsumers = api.ExportRules{}, api.ErrRange
		}
		if n < 1 || n > 1000 {
			wantFirst, whyFirst = api.ExportRules{}, api.ErrRange
		}
		if n > 9 {
			whyConsumers = api.ErrConf
		}
		if n > 9999 {
			why = api.ErrConf
		}
		checkRead(t, "queue "+s, node("queue:"+s), want, why)
		checkRead(t, "consumers "+s, node("consumers:"+s), wantConsumers, whyConsumers)
		checkRead(t, "first "+s, node("first:"+s+"ms"), wantFirst, whyFirst)
	}
}
