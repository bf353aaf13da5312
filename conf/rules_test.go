package conf_test

import (
	"math/rand/v2"
	"runtime"
	"slices"
	"strings"
	"testing"

	"penstock/api"
	"penstock/conf"
)

// tree is a config with all kinds in it.
func tree() api.Node {
	return mapOf(
		key("a", mapOf(key("b", mapOf(key("c", listOf("x", "y")), key("d", textOf("z")))), key("e", mapOf()))),
		key("b", textOf("w")),
		key("c", listOf()),
	)
}

func checkGet(t *testing.T, n api.Node, path []string, want api.Node, wantIs bool) {
	t.Helper()
	got, is := conf.Get(n, path...)
	if !same(got, want) || is != wantIs {
		t.Errorf("Get of %q, %d keys: %s, %v, want %s, %v", path[:min(len(path), 9)], len(path), brief(shown(got)), is, brief(shown(want)), wantIs)
	}
}

func TestP123Get(t *testing.T) {
	n := tree()
	a := n.Keys[0].Node
	b := a.Keys[0].Node
	checkGet(t, n, nil, n, true)
	checkGet(t, n, []string{"a"}, a, true)
	checkGet(t, n, []string{"a", "b"}, b, true)
	checkGet(t, n, []string{"a", "b", "c"}, listOf("x", "y"), true)
	checkGet(t, n, []string{"a", "b", "d"}, textOf("z"), true)
	checkGet(t, n, []string{"a", "e"}, mapOf(), true)
	checkGet(t, n, []string{"b"}, textOf("w"), true)
	checkGet(t, n, []string{"c"}, listOf(), true)
	for _, path := range []string{"d", "", "A", "a b", "a/", "b/b", "b/", "c/x", "c/0", "a/c", "a/b/c/x", "a/b/c/d", "a/e/b", "e", "a/a", "a/b/b", "/a", "x/a", "b/b/a"} {
		checkGet(t, n, strings.Split(path, "/"), api.Node{}, false)
	}
	checkGet(t, mapOf(), []string{"a"}, api.Node{}, false)
	for _, n := range []api.Node{textOf("x"), listOf("x"), mapOf()} {
		checkGet(t, n, nil, n, true)
		checkGet(t, n, []string{"x"}, api.Node{}, false)
		checkGet(t, n, []string{""}, api.Node{}, false)
	}
	checkGet(t, n, slices.Repeat([]string{"a"}, 1<<16), api.Node{}, false)
	const depth = 1<<16 - 1
	deep := nested(depth)
	checkGet(t, deep, nil, deep, true)
	checkGet(t, deep, slices.Repeat([]string{"k"}, depth), textOf("x"), true)
	checkGet(t, deep, slices.Repeat([]string{"k"}, depth+1), api.Node{}, false)
}

// TestP123Odd has nodes that are not right: what is no map has no keys.
func TestP123Odd(t *testing.T) {
	for _, kind := range []api.NodeKind{api.NodeText, api.NodeList, api.NodeCount, 255} {
		n := tree()
		n.Kind, n.Text, n.List = kind, "x", []string{"y"}
		checkGet(t, n, nil, n, true)
		checkGet(t, n, []string{"b"}, api.Node{}, false)
		checkGet(t, under("k", n), []string{"k"}, n, true)
		checkGet(t, under("k", n), []string{"k", "b"}, api.Node{}, false)
	}
	n := tree()
	n.Text, n.List = "x", []string{"y"}
	checkGet(t, n, []string{"b"}, textOf("w"), true)
	checkGet(t, mapOf(key("", textOf("x")), key("a b", textOf("y"))), []string{""}, textOf("x"), true)
	checkGet(t, mapOf(key("", textOf("x")), key("a b", textOf("y"))), []string{"a b"}, textOf("y"), true)
	checkGet(t, mapOf(key("a", textOf("x")), key("a", textOf("y"))), []string{"a"}, textOf("x"), true)
}

// gets tells that each key of n is got, and all that is under it.
func gets(t *testing.T, whole, n api.Node, path ...string) {
	t.Helper()
	checkGet(t, whole, path, n, true)
	for _, k := range n.Keys {
		gets(t, whole, k.Node, append(slices.Clone(path), k.Key)...)
	}
	checkGet(t, whole, append(slices.Clone(path), "none"), api.Node{}, false)
}

func TestP128Found(t *testing.T) {
	r := rand.New(rand.NewPCG(12, 8))
	for range 500 {
		n := someNode(r, 0, true)
		gets(t, n, n)
	}
}

// measure is Millis, or Bytes.
type measure func(string) (uint64, api.Errno)

func (m measure) check(t *testing.T, s string, want uint64, wantWhy api.Errno) {
	t.Helper()
	if got, why := m(s); got != want || why != wantWhy {
		t.Errorf("read of %s: %d, error %d, want %d, error %d", brief(s), got, why, want, wantWhy)
	}
}

// checkUnits has each number with each unit, and with what is none.
func (m measure) checkUnits(t *testing.T, units map[string]uint64, wrong ...string) {
	t.Helper()
	for unit, size := range units {
		for s, n := range numbers() {
			m.check(t, s+unit, n*size, api.OK)
		}
		for _, s := range noNumbers() {
			m.check(t, s+unit, 0, api.ErrConf)
		}
	}
	for s := range numbers() {
		for _, unit := range wrong {
			m.check(t, s+unit, 0, api.ErrConf)
		}
	}
}

// numbers are of one digit to nine.
func numbers() map[string]uint64 {
	return map[string]uint64{"0": 0, "1": 1, "9": 9, "5": 5, "10": 10, "007": 7, "123456789": 123456789, "999999999": 999999999, "000000000": 0, "000000001": 1}
}

func noNumbers() []string {
	return []string{"", "0000000000", "1000000000", "0000000001", "12345678901234567890", "-1", "+1", "1.5", "1e3", "0x1", "1_0", " 1", "1 ", "\n1", "１", "\xff", "a", strings.Repeat("1", 1<<16)}
}

func TestP124Millis(t *testing.T) {
	m := measure(conf.Millis)
	m.checkUnits(t, map[string]uint64{"ms": 1, "s": 1000, "m": 60000, "h": 3600000},
		"", "S", "M", "H", "MS", "Ms", "us", "ns", "d", "sec", "min", "mss", "ms ", "s\n", " s", "sm", "hm", "s1", "m0", "h1m", "B", "KiB", "\x00", "é", "mS")
	m.check(t, "5s", 5000, api.OK)
	m.check(t, "999999999h", 3599999996400000, api.OK)
}

func TestP124Bytes(t *testing.T) {
	m := measure(conf.Bytes)
	m.checkUnits(t, map[string]uint64{"": 1, "B": 1, "KiB": 1024, "MiB": 1048576, "GiB": 1073741824},
		"b", "K", "KB", "kB", "kiB", "Kib", "KIB", "M", "MB", "GB", "TiB", "k", "iB", "KiBs", "KiB ", " KiB", "B ", " B", "BB", "B1", "Ki", "s", "ms", "\x00", "é")
	m.check(t, "4KiB", 4096, api.OK)
	m.check(t, "999999999GiB", 1073741822926258176, api.OK)
}

// spoil overwrites all lists of n, and what lies behind them.
func spoil(n api.Node) {
	for _, k := range n.Keys {
		spoil(k.Node)
	}
	clear(n.List[:cap(n.List)])
	clear(n.Keys[:cap(n.Keys)])
}

// withRoom has room behind its lists.
func withRoom(n api.Node, room int) api.Node {
	n.List = append(make([]string, 0, len(n.List)+room), n.List...)
	n.Keys = append(make([]api.Keyed, 0, len(n.Keys)+room), n.Keys...)
	for i := range n.Keys {
		n.Keys[i].Node = withRoom(n.Keys[i].Node, room)
	}
	return n
}

func TestP125NewMemory(t *testing.T) {
	const s = "a:\n  b:\n    c: [x, y]\n    d: z\n  e:\nb: w\nc: []\n"
	one, _, _ := conf.Parse(s)
	two, _, _ := conf.Parse(s)
	spoil(one)
	if !same(two, tree()) {
		t.Errorf("an earlier answer of Parse is kept: %s", shown(two))
	}
	for _, path := range [][]string{nil, {"a"}, {"a", "b"}, {"a", "b", "c"}} {
		for _, room := range []int{0, 3} {
			n := withRoom(tree(), room)
			one, _ := conf.Get(n, path...)
			two, _ := conf.Get(n, path...)
			want, _ := conf.Get(tree(), path...)
			spoil(one)
			if !same(n, tree()) {
				t.Errorf("Get of %q shares memory with what was handed in", path)
			}
			if len(n.Keys) < cap(n.Keys) && n.Keys[:cap(n.Keys)][len(n.Keys)].Key != "" {
				t.Errorf("Get of %q writes behind what was handed in", path)
			}
			spoil(n)
			if !same(two, want) {
				t.Errorf("Get of %q keeps what was handed in, or an earlier answer: %s", path, shown(two))
			}
		}
	}
	n := withRoom(tree(), 2)
	s1, _ := conf.Print(n)
	why := conf.Check(n)
	s2, _ := conf.Print(n)
	if s1 != s || s2 != s || why != api.OK || !same(n, tree()) {
		t.Errorf("Print changes what was handed in: %s, %s", brief(s1), brief(s2))
	}
}

// TestP125Apart has lists of one answer that are changed apart.
func TestP125Apart(t *testing.T) {
	n, _, _ := conf.Parse("a: [x, y]\nb: [x, y]\nc:\n  d:\n    e: x\n  f: y\ng: z\n")
	want := mapOf(key("a", listOf("x", "y")), key("b", listOf("x", "y")), key("c", mapOf(key("d", under("e", textOf("x"))), key("f", textOf("y")))), key("g", textOf("z")))
	for _, part := range []func(api.Node) api.Node{
		func(n api.Node) api.Node { return n.Keys[0].Node },
		func(n api.Node) api.Node { return n.Keys[1].Node },
		func(n api.Node) api.Node { return n.Keys[2].Node.Keys[0].Node },
		func(n api.Node) api.Node { return n.Keys[2].Node },
	} {
		x := part(n)
		_ = append(x.List, "more")
		_ = append(x.Keys, key("more", mapOf()))
	}
	if !same(n, want) {
		t.Errorf("lists of one answer share memory: %s", shown(n))
	}
}

// TestP1AndP2Anything hands in anything: nothing panics, and beside an error there is nothing.
func TestP1AndP2Anything(t *testing.T) {
	r := rand.New(rand.NewPCG(12, 9))
	for range 20000 {
		b := make([]byte, r.IntN(40))
		for i := range b {
			b[i] = pick(r, byte(r.IntN(256)), "ab:# \n\"[],\\"[r.IntN(11)])
		}
		s := string(b)
		n, why, line := conf.Parse(s)
		if why != api.OK && (!same(n, api.Node{}) || line < 1 || line > 1+strings.Count(s, "\n")) || why == api.OK && line != 0 {
			t.Fatalf("Parse of %q: error %d in line %d, %s", s, why, line, shown(n))
		}
		millis, whyMillis := conf.Millis(s)
		bytes, whyBytes := conf.Bytes(s)
		if whyMillis != api.OK && millis != 0 || whyBytes != api.OK && bytes != 0 {
			t.Fatalf("Millis and Bytes of %q: %d, error %d, %d, error %d", s, millis, whyMillis, bytes, whyBytes)
		}
	}
	for range 2000 {
		n := someNode(r, 1, false)
		if s, why := conf.Print(n); why != api.OK && s != "" {
			t.Fatalf("Print: error %d, %q", why, s)
		}
		got, is := conf.Get(n, someKey(r), someKey(r))
		if !is && !same(got, api.Node{}) {
			t.Fatalf("Get: %s", shown(got))
		}
	}
}

func TestP3AndP4AlwaysTheSame(t *testing.T) {
	before := runtime.NumGoroutine()
	for range 30 {
		s, why := conf.Print(tree())
		n, whyParse, line := conf.Parse(s)
		if !same(n, tree()) || why != api.OK || whyParse != api.OK || line != 0 {
			t.Errorf("Parse: error %d, %s", whyParse, shown(n))
		}
		checkRefused(t, "once more", s+"a: b\na: c", api.ErrConf, 8)
	}
	for range 1000 { // one that is joined may still be on its way out
		if runtime.NumGoroutine() <= before {
			return
		}
		runtime.Gosched()
	}
	t.Errorf("%d goroutines are left", runtime.NumGoroutine()-before)
}
