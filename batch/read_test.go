package batch_test

import (
	"fmt"
	"strings"
	"testing"

	"penstock/api"
	"penstock/batch"
	"penstock/conf"
)

func checkRead(t *testing.T, name string, n api.Node, want api.BatchRules, wantWhy api.Errno) {
	t.Helper()
	r, why := batch.Read(n)
	if r != want || why != wantWhy {
		t.Errorf("Read of %s: %+v, error %d\nwant %+v, error %d", name, r, why, want, wantWhy)
	}
}

func TestP161Read(t *testing.T) {
	for s, want := range map[string]api.BatchRules{
		"":                                  rules(8, 1024, 200),
		"kind:batch":                        rules(8, 1024, 200),
		"size:2":                            rules(2, 1024, 200),
		"max:9":                             rules(8, 9, 200),
		"max:8":                             rules(8, 8, 200),
		"wait:5s":                           rules(8, 1024, 5000),
		"size:2 max:3":                      rules(2, 3, 200),
		"size:2 wait:0ms":                   rules(2, 1024, 0),
		"max:100 wait:1h":                   rules(8, 100, 3600000),
		"kind:batch size:2 max:3 wait:50ms": rules(2, 3, 50),
		"wait:50ms max:3 size:2 kind:batch": rules(2, 3, 50),
		"size:1 max:1":                      rules(1, 1, 200),
		"size:1024":                         rules(1024, 1024, 200),
		"size:1024 max:1024":                rules(1024, 1024, 200),
		"size:7 max:7 wait:1m":              rules(7, 7, 60000),
		"size:0002 max:0003":                rules(2, 3, 200),
		"size:01 max:001 wait:007ms":        rules(1, 1, 7),
		"wait:999999999h":                   rules(8, 1024, 999999999*3600000),
		"kind:other":                        rules(8, 1024, 200),
		"kind: size:2":                      rules(2, 1024, 200),
	} {
		checkRead(t, s, node(strings.Fields(s)...), want, api.OK)
	}
	for _, kind := range []api.Node{listNode("x"), mapNode(key("size", listNode()))} {
		checkRead(t, "any kind", mapNode(key("size", textNode("2")), key("kind", kind)), rules(2, 1024, 200), api.OK)
	}
}

func TestP161ReadRange(t *testing.T) {
	for _, s := range []string{"size:0", "size:0000", "size:0 max:0", "max:0", "max:1", "max:7", "max:1025", "max:9999", "size:9 max:8", "size:2 max:1", "size:1025", "size:9999", "size:1025 max:1025", "size:1 max:0", "size:3 max:2 wait:1s", "max:0007"} {
		checkRead(t, s, node(strings.Fields(s)...), api.BatchRules{}, api.ErrRange)
		for _, more := range []string{"wait:1", "x:y", "wait:", "wait:s"} { // what is ErrConf comes ahead
			checkRead(t, s+" "+more, node(append(strings.Fields(s), more)...), api.BatchRules{}, api.ErrConf)
			checkRead(t, more+" "+s, node(append([]string{more}, strings.Fields(s)...)...), api.BatchRules{}, api.ErrConf)
		}
	}
}

func TestP161ReadConf(t *testing.T) {
	for _, k := range []string{"size", "max"} {
		for _, s := range []string{"", " ", "x", "8x", "x8", " 8", "8 ", "+8", "-8", "-0", "+0", "00008", "00000", "10240", "99999", "8.0", "8,0", "1e1", "0x8", "0b1", "1_0", "_8", "8_", "٨", "８", "8ms", "8\n", "\t8", "1 0", strings.Repeat("0", 100), strings.Repeat("9", 30)} {
			checkRead(t, k+" "+s, mapNode(key(k, textNode(s))), api.BatchRules{}, api.ErrConf)
			checkRead(t, k+" "+s+", and more", mapNode(key("kind", textNode("batch")), key(k, textNode(s)), key("wait", textNode("1s"))), api.BatchRules{}, api.ErrConf)
		}
	}
	for _, s := range []string{"", " ", "x", "1", "0", "s", "ms", "-1s", "+1s", " 1s", "1s ", "1 s", "1.5s", "1S", "1Ms", "1MS", "1d", "1us", "1sec", "0x1s", "1_0s", "1000000000ms", "0000000001ms", "1s1ms", "s1", "１s"} {
		checkRead(t, "wait "+s, mapNode(key("wait", textNode(s))), api.BatchRules{}, api.ErrConf)
		checkRead(t, "wait "+s+", and more", mapNode(key("size", textNode("2")), key("wait", textNode(s)), key("max", textNode("4"))), api.BatchRules{}, api.ErrConf)
	}
	for _, k := range []string{"size", "max", "wait"} {
		for i, n := range []api.Node{listNode(), listNode("8"), listNode("1s"), mapNode(), mapNode(key("8", textNode("8"))), mapNode(key("size", textNode("8")))} {
			checkRead(t, fmt.Sprint(k, " that is no text, ", i), mapNode(key(k, n)), api.BatchRules{}, api.ErrConf)
			checkRead(t, fmt.Sprint(k, " that is no text, and kind, ", i), mapNode(key("kind", textNode("batch")), key(k, n)), api.BatchRules{}, api.ErrConf)
		}
	}
	for _, k := range []string{"Size", "sizes", "Max", "min", "Wait", "timeout", "kinds", "drop", "on", "actions", "a"} {
		for _, n := range []api.Node{textNode("8"), textNode("1s"), listNode(), mapNode()} {
			checkRead(t, "another key", mapNode(key(k, n)), api.BatchRules{}, api.ErrConf)
			checkRead(t, "another key, behind", mapNode(key("size", textNode("2")), key("kind", textNode("batch")), key(k, n)), api.BatchRules{}, api.ErrConf)
			checkRead(t, "another key, ahead", mapNode(key(k, n), key("max", textNode("100"))), api.BatchRules{}, api.ErrConf)
		}
	}
}

// TestP161ReadNode has nodes that conf.Check refuses.
func TestP161ReadNode(t *testing.T) {
	for name, n := range map[string]api.Node{
		"a text":           textNode("8"),
		"a list":           listNode("8"),
		"no kind":          {Kind: api.NodeCount},
		"a text too long":  node("kind:" + strings.Repeat("x", api.MaxText+1)),
		"a key twice":      node("size:2", "size:2"),
		"a map with more":  {Text: "8"},
		"a control":        node("kind:\x01"),
		"no key":           node("size:2", ":x"),
		"a text with more": mapNode(key("size", api.Node{Kind: api.NodeText, Text: "2", List: []string{"x"}})),
		"a kind that is 9": mapNode(key("kind", api.Node{Kind: 9})),
	} {
		if why := conf.Check(n); why != api.ErrConf {
			t.Fatalf("%s is right", name)
		}
		checkRead(t, name, n, api.BatchRules{}, api.ErrConf)
	}
	n, why, _ := conf.Parse("kind: batch\nsize: 2 # items\nmax: 3\nwait: 50ms\n")
	if why != api.OK {
		t.Fatalf("Parse: error %d", why)
	}
	checkRead(t, "a config", n, rules(2, 3, 50), api.OK)
}

// TestP161ReadAll has all numbers of one digit to five.
func TestP161ReadAll(t *testing.T) {
	for n := range 11000 {
		s := fmt.Sprint(n)
		want, why := rules(n, 1024, 200), api.OK
		wantMax, whyMax := rules(1, n, 200), api.OK
		if n < 1 || n > 1024 {
			want, why = api.BatchRules{}, api.ErrRange
			wantMax, whyMax = want, why
		}
		if n > 9999 {
			why, whyMax = api.ErrConf, api.ErrConf
		}
		checkRead(t, "size "+s, node("size:"+s), want, why)
		checkRead(t, "max "+s, node("size:1", "max:"+s), wantMax, whyMax)
	}
}
