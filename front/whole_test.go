package front_test

import (
	"math"
	"slices"
	"strings"
	"testing"

	"penstock/api"
	"penstock/batch"
	"penstock/collect"
	"penstock/conf"
	"penstock/disk"
	"penstock/filter"
	"penstock/front"
	"penstock/graph"
	"penstock/segment"
	"penstock/size"
	"penstock/trace"
	"penstock/value"
	"penstock/wire"
)

// The tests of this file are of DOC.md's ten examples of the whole, one by one, and of its P5.

func TestExample1Wire(t *testing.T) {
	s, why := wire.Write([]api.Field{{Num: 1, N: 150}})
	if s != "\x08\x96\x01" || why != api.OK {
		t.Errorf("a field 1 that is 150: %q, error %d", s, why)
	}
	if s := wire.Num(300); s != "\xac\x02" {
		t.Errorf("the varint of 300: %q", s)
	}
}

func TestExample2Values(t *testing.T) {
	number := func(n int64) api.Value { return api.Value{Kind: api.KindInt, N: n} }
	float := func(f float64) api.Value { return api.Value{Kind: api.KindFloat, F: f} }
	if n, is := value.Compare(number(1<<53+1), float(1<<53)); n <= 0 || !is {
		t.Errorf("2^53 + 1 and the float 2^53: %d, %v", n, is)
	}
	negative := float(math.Copysign(0, -1))
	if n, is := value.Compare(float(0), negative); n != 0 || !is || value.Same(float(0), negative) {
		t.Errorf("0 and -0: %d, %v, the same: %v", n, is, value.Same(float(0), negative))
	}
}

func TestExample3Size(t *testing.T) {
	d := api.Data{Signal: api.SignalLog, Groups: []api.Group{{}}}
	n, why := size.Size(d)
	s, whyWrite := trace.Write(d)
	if n != 4 || s != "\x0a\x02\x12\x00" || why != api.OK || whyWrite != api.OK {
		t.Errorf("a group without records: %d bytes, %q, error %d", n, s, why)
	}
}

func TestExample4Requests(t *testing.T) {
	checkRun(t, simple, "connect r\nfeed 1 "+front.Word("GET /x HTTP/1.1\r\n\r\n")+"\nlook 1\ntake 1\nfeed 1 x%0D%0A\nlook 1\ntake 1\ntake 1\n",
		"ok 1 -\nok 0 -\nok 1 -\nok 0 "+front.Word("HTTP/1.1 404 Not Found\r\nContent-Length: 0\r\n\r\n")+"\nok 0 -\nok 1 -\nok 0 "+
			front.Word("HTTP/1.1 400 Bad Request\r\nConnection: close\r\nContent-Length: 0\r\n\r\n")+"\nunknown 0 -\nheld 0\n", api.OK, 0)
}

func TestExample5Disks(t *testing.T) {
	d, _ := disk.Create(api.Disk{Fuse: -1, Fault: -1}, "a")
	d, _ = disk.Append(d, "a", "xy")
	d, _ = disk.Sync(d, "a")
	d, _ = disk.Append(d, "a", "zzz")
	for keep, want := range []string{"xy", "xyz", "xyzz", "xyzzz", "xyzzz"} {
		c, _ := disk.Crash(d, []int{keep})
		if s, why := disk.Read(c, "a"); s != want || why != api.OK {
			t.Errorf("Crash keeping %d: %q, error %d", keep, s, why)
		}
	}
}

func TestExample6Logs(t *testing.T) {
	l, _, _ := segment.Open(api.Disk{Fuse: -1, Fault: -1}, 4096)
	l, _ = segment.Append(l, "first")
	l, _ = segment.Append(l, "second")
	l.Disk.Fuse = 0
	l, _ = segment.Append(l, "third")
	for keep := range 16 + len("third") {
		d, _ := disk.Crash(l.Disk, []int{keep})
		_, records, why := segment.Open(d, 4096)
		if !slices.Equal(records, []api.Record{{Seq: 1, Data: "first"}, {Seq: 2, Data: "second"}}) || why != api.OK {
			t.Errorf("Open behind a crash keeping %d: %v, error %d", keep, records, why)
		}
	}
}

func TestExample7Ways(t *testing.T) {
	n, _, _ := conf.Parse(strings.Replace(simple, "exporters: [e]\n", "exporters: [c, e]\n  logs/b:\n    receivers: [c]\n    exporters: [e]\nconnectors:\n  c:\n", 1))
	g, why := graph.Read(n)
	if why != api.OK {
		t.Fatalf("graph.Read: error %d", why)
	}
	c, _ := collect.Open(g, api.Rules{MaxBody: 1000}, 100, []api.Disk{{Fuse: -1, Fault: -1}})
	for _, m := range []api.Move{{Kind: api.MoveConnect, Text: "r"}, {Kind: api.MoveFeed, Line: 1, Text: post("1", "2", "3")}, {Kind: api.MoveLook, Line: 1}} {
		c, _, _ = collect.Do(c, m)
	}
	ways, _ := graph.Ways(g, 0)
	if !slices.Equal(ways, []uint64{2}) || c.Exporters[0].Ledger != (api.Ledger{Offered: 6}) {
		t.Errorf("ways %v, %+v", ways, c.Exporters[0].Ledger)
	}
}

func TestExample8NaN(t *testing.T) {
	l, why := filter.Parse(`attr["f"] != attr["f"]`)
	for f, want := range map[float64]bool{math.NaN(): true, 0: false, math.Inf(1): false} {
		is, whyHolds := filter.Holds(l, api.Item{Attrs: []api.Pair{{Key: "f", Value: api.Value{Kind: api.KindFloat, F: f}}}}, nil)
		if is != want || why != api.OK || whyHolds != api.OK {
			t.Errorf("it holds of %v: %v, errors %d and %d", f, is, why, whyHolds)
		}
	}
}

func TestExample9Batch(t *testing.T) {
	b, gone, why := batch.Add(api.Batch{}, api.BatchRules{Size: 3, Max: 4}, logs("1", "2", "3", "4", "5", "6"), 1)
	if len(gone) != 1 || len(gone[0].Groups[0].Items) != 4 || len(b.Held.Groups[0].Items) != 2 || why != api.OK {
		t.Errorf("Add: %v, %v, error %d", b, gone, why)
	}
	config := strings.Replace(simple, "exporters: [e]", "processors: [b]\n    exporters: [e]", 1) + "processors:\n  b:\n    kind: batch\n    size: 3\n    max: 4\n"
	checkRun(t, config, "connect r\nfeed 1 "+front.Word(post("1", "2", "3", "4", "5", "6"))+"\nlook 1\nsend 0\nat 199\ntick\nreply 0 1 200 -\nsend 0\nat 200\ntick\nsend 0\n",
		"ok 1 -\nok 0 -\nok 1 -\nok 1 "+front.Word(request("1", "2", "3", "4"))+"\nok 0 -\nok 0 -\nunknown 0 -\nok 0 -\nok 3 "+front.Word(request("5", "6"))+"\nheld 2\n", api.OK, 0)
}

func TestExample10Again(t *testing.T) {
	sent := "ok 1 " + front.Word(request("1")) + "\n"
	begin := "connect r\nfeed 1 " + front.Word(post("1")) + "\nlook 1\nat 50\nsend 0\n"
	checkRun(t, simple, begin+"reply 0 1 503 -\nat 149\nsend 0\nat 150\nsend 0\n", "ok 1 -\nok 0 -\nok 1 -\n"+sent+"ok 0 -\nunknown 0 -\n"+sent+"held 1\n", api.OK, 0)
	checkRun(t, simple, begin+"reply 0 1 400 -\nat 150\nsend 0\nat 100000\nsend 0\n", "ok 1 -\nok 0 -\nok 1 -\n"+sent+"ok 0 -\nunknown 0 -\nunknown 0 -\nheld 0\n", api.OK, 0)
}

// TestP5ThereAndBack has a script be printed and read again, and so the config, the request and the message, floats by their bits.
func TestP5ThereAndBack(t *testing.T) {
	n, _, _ := conf.Parse(rich)
	s, why := conf.Print(n)
	if back, _, _ := conf.Parse(s); !same(back, n) || why != api.OK {
		t.Errorf("the config: %s", s)
	}
	l := []api.Move{{Kind: api.MoveConnect, Text: "r"}, {Kind: api.MoveFeed, Now: 5, Line: 1, Text: post("1", "ä ")}, {Kind: api.MoveCrash, Now: 5, Keeps: [][]int{{1, 2}, {3}}}}
	s, why = front.Print(l)
	back, whyParse, _ := front.Parse(s)
	if !same(back, l) || why != api.OK || whyParse != api.OK {
		t.Errorf("Parse of %s: %s", brief(s), brief(back))
	}
	for _, bits := range []uint64{0, 1 << 63, 0x7ff8000000000001, 0xfff0000000000000} {
		d := logs("f")
		d.Groups[0].Items[0].Attrs = []api.Pair{{Key: "f", Value: api.Value{Kind: api.KindFloat, F: math.Float64frombits(bits)}}}
		body, _ := trace.Write(d)
		d, why := trace.Read(body, api.SignalLog)
		if got := math.Float64bits(d.Groups[0].Items[0].Attrs[0].Value.F); got != bits || why != api.OK {
			t.Errorf("a float of %x: %x", bits, got)
		}
	}
}
