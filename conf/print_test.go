package conf_test

import (
	"math/rand/v2"
	"slices"
	"strconv"
	"strings"
	"testing"

	"penstock/api"
	"penstock/conf"
)

// bad are nodes that are not right, as they stand under a key.
func bad() map[string]api.Node {
	long := strings.Repeat("x", api.MaxText+1)
	l := map[string]api.Node{
		"no kind":                  {Kind: api.NodeCount},
		"the greatest kind":        {Kind: 255},
		"a map with a text":        {Text: "x"},
		"a map with a list":        {List: []string{""}},
		"a map with keys and both": {Text: "x", List: []string{"x"}, Keys: []api.Keyed{key("a", textOf(""))}},
		"a text with a list":       {Kind: api.NodeText, Text: "x", List: []string{""}},
		"a text with keys":         {Kind: api.NodeText, Text: "x", Keys: []api.Keyed{key("a", textOf(""))}},
		"a list with a text":       {Kind: api.NodeList, Text: "x"},
		"a list with keys":         {Kind: api.NodeList, List: []string{"x"}, Keys: []api.Keyed{key("a", textOf(""))}},
		"a long text":              textOf(long),
		"a long text in a list":    listOf("a", long),
		"too many in a list":       listOf(make([]string, api.MaxParts+1)...),
		"too many in a map":        mapOf(keys(api.MaxParts + 1)...),
		"too deep":                 nested(api.MaxDepth + 1), // one map more is around it
		"too deep, and empty":      under0(api.MaxDepth),
	}
	for b := range 0x80 {
		if b != '\n' && b != '\t' && (b < ' ' || b == 0x7f) {
			l["control "+strconv.Itoa(b)] = textOf("a" + string(rune(b)))
			l["control in a list "+strconv.Itoa(b)] = listOf("a", string(rune(b))+"a")
		}
	}
	for _, k := range []string{"", strings.Repeat("k", 65), long, " ", "a b", "a:", ":", "é", "\xff", "a\n", "a#", "\"a\"", "a,", "[", "a@", "a`", "a{", "a+"} {
		l["key "+strconv.Quote(k[:min(len(k), 70)])] = under(k, textOf("x"))
	}
	l["a key twice"] = mapOf(key("a", textOf("x")), key("b", textOf("x")), key("a", textOf("x")))
	l["a key twice at the end"] = mapOf(key("b", textOf("x")), key("a", textOf("x")), key("a", mapOf()))
	return l
}

func keys(n int) []api.Keyed {
	var l []api.Keyed
	for i := range n {
		l = append(l, key("k"+strconv.Itoa(i), textOf("")))
	}
	return l
}

// fine are nodes that are right.
func fine() map[string]api.Node {
	long := strings.Repeat("x", api.MaxText)
	return map[string]api.Node{
		"nothing":                  mapOf(),
		"a long text":              under("a", textOf(long)),
		"long ones in a list":      under("a", listOf(long, long, "")),
		"many in a list":           under("a", listOf(make([]string, api.MaxParts)...)),
		"many in a map":            mapOf(keys(api.MaxParts)...),
		"as deep as may be":        nested(api.MaxDepth + 1),
		"as deep, and empty":       under0(api.MaxDepth),
		"a long key":               under(strings.Repeat("k", 64), mapOf()),
		"any key":                  mapOf(key("a", textOf("")), key("A", textOf("")), key("_-/.09zZ", textOf(""))),
		"the same key in others":   mapOf(key("a", under("a", textOf("x"))), key("b", under("a", textOf("x")))),
		"any bytes":                under("a", textOf("\n\t \x80\xff\u0085~")),
		"any bytes in a list":      under("a", listOf("\n", "\t", " ", "\x80", "\xff")),
		"empty lists of all kinds": mapOf(key("a", api.Node{List: []string{}}), key("b", api.Node{Kind: api.NodeText, Keys: []api.Keyed{}, List: []string{}}), key("c", listOf())),
	}
}

func TestP122Check(t *testing.T) {
	for name, n := range bad() {
		for _, n := range []api.Node{n, under("k", n), mapOf(key("a", textOf("")), key("k", n), key("b", mapOf()))} {
			if same(n, mapOf()) || n.Kind == api.NodeMap && right(n, 0) {
				continue // one map less is around it
			}
			if why := conf.Check(n); why != api.ErrConf {
				t.Errorf("Check of %s: error %d: %s", name, why, shown(n))
			}
			checkPrint(t, name, n, "", api.ErrConf)
		}
	}
	for name, n := range fine() {
		if why := conf.Check(n); why != api.OK {
			t.Errorf("Check of %s: error %d", name, why)
		}
	}
	for _, n := range []api.Node{textOf(""), textOf("x"), listOf(), listOf("x")} {
		if why := conf.Check(n); why != api.ErrConf {
			t.Errorf("Check of what is no map: error %d: %s", why, shown(n))
		}
		checkPrint(t, "what is no map", n, "", api.ErrConf)
	}
}

// TestP122Depth tells the greatest depth apart from one more.
func TestP122Depth(t *testing.T) {
	for n, want := range map[int]api.Errno{8: api.OK, 9: api.ErrConf, 10: api.ErrConf, 1000: api.ErrConf, 60000: api.ErrConf} {
		if why := conf.Check(under0(n)); why != want {
			t.Errorf("Check of a map with %d around it: error %d", n, why)
		}
		if why := conf.Check(nested(n + 1)); why != want {
			t.Errorf("Check of a text with %d maps around it: error %d", n+1, why)
		}
	}
}

func TestP122Print(t *testing.T) {
	n := mapOf(key("a", under("b", listOf("x", "y z"))), key("c", textOf("5s")))
	checkPrint(t, "the chapter's example", n, "a:\n  b: [x, \"y z\"]\nc: 5s\n", api.OK)
	checkPrint(t, "nothing", mapOf(), "", api.OK)
	checkPrint(t, "all kinds", mapOf(key("a", mapOf()), key("b", listOf()), key("c", textOf(""))), "a:\nb: []\nc: \"\"\n", api.OK)
	checkPrint(t, "maps in maps", mapOf(key("a", mapOf(key("b", under("c", textOf("x"))), key("d", mapOf()))), key("e", textOf("y"))), "a:\n  b:\n    c: x\n  d:\ne: y\n", api.OK)
	checkPrint(t, "the deepest", under0(8), "k:\n  k:\n    k:\n      k:\n        k:\n          k:\n            k:\n              k:\n", api.OK)
	for s, want := range map[string]string{
		"x": "x", "5s": "5s", "a b": "a b", "a: b": "a: b", ":": ":", "a#b": "a#b", "a#": "a#", "a,b": "a,b", "a\"": "a\"", "a\\n": "a\\n", "\\": "\\", "é": "é", "\xff": "\xff", "-": "-", "a]": "a]",
		"": `""`, " ": `" "`, " a": `" a"`, "a ": `"a "`, "#": `"#"`, "#a": `"#a"`, "a #": `"a #"`, "a #b": `"a #b"`, "a  #": `"a  #"`, "a\n": `"a\n"`, "\ta": `"\ta"`, "\"": `"\""`, "\"\\\n\t": `"\"\\\n\t"`, "[": `"["`, "[]": `"[]"`, "a\\\n": `"a\\\n"`,
	} {
		checkPrint(t, "a text", under("k", textOf(s)), "k: "+want+"\n", api.OK)
	}
	for s, want := range map[string]string{
		"x": "x", "5s": "5s", "a#b": "a#b", "\\n": "\\n", "é": "é", "\xff": "\xff", "-": "-",
		"": `""`, " ": `" "`, "a b": `"a b"`, "a:": `"a:"`, ":": `":"`, "#": `"#"`, "a,b": `"a,b"`, "a\"": `"a\""`, "a]": `"a]"`, "\n": `"\n"`, "a #": `"a #"`, "\\\"": `"\\\""`,
	} {
		checkPrint(t, "a list", under("k", listOf(s)), "k: ["+want+"]\n", api.OK)
		checkPrint(t, "a list of three", under("k", listOf("a", s, "b")), "k: [a, "+want+", b]\n", api.OK)
	}
	for b := range 256 {
		c := string([]byte{byte(b)})
		if b < ' ' || b == 0x7f {
			continue
		}
		isSpecial := strings.Contains("\"[]{},&*!|>'%@`", c)
		bare := "a" + c
		inQuotes := `"` + strings.NewReplacer(`\`, `\\`, `"`, `\"`).Replace(bare) + `"`
		isPlain, isWord := b != ' ', !isSpecial && b != ' ' && b != ':'
		checkPrint(t, "a text", under("k", textOf(bare)), "k: "+map[bool]string{true: bare, false: inQuotes}[isPlain]+"\n", api.OK)
		checkPrint(t, "a word", under("k", listOf(bare)), "k: ["+map[bool]string{true: bare, false: inQuotes}[isWord]+"]\n", api.OK)
		inQuotes = `"` + strings.NewReplacer(`\`, `\\`, `"`, `\"`).Replace(c) + `"`
		checkPrint(t, "a text of one byte", under("k", textOf(c)), "k: "+map[bool]string{true: c, false: inQuotes}[!isSpecial && b != ' ' && b != '#']+"\n", api.OK)
	}
}

func TestP122PrintLong(t *testing.T) {
	part := strings.Repeat("x", api.MaxConf/4-4)
	l := []api.Keyed{key("a", textOf(part)), key("b", textOf(part)), key("c", textOf(part)), key("d", textOf(part))}
	s, why := conf.Print(mapOf(l...))
	if len(s) != api.MaxConf || why != api.OK {
		t.Errorf("Print: %d bytes, error %d", len(s), why)
	}
	checkParse(t, "as long as may be", s[:len(s)-2], mapOf(append(slices.Clone(l[:3]), key("d", textOf(part[1:])))...)) // two LFs behind it
	for i := range l {
		longer := slices.Clone(l)
		longer[i].Node.Text += "x"
		checkPrint(t, "one byte more", mapOf(longer...), "", api.ErrLong)
		longer[i].Node = textOf(part[1:] + "#")
		if s, why := conf.Print(mapOf(longer...)); len(s) != api.MaxConf || why != api.OK {
			t.Errorf("Print: %d bytes, error %d", len(s), why)
		}
		longer[i].Node = textOf(part[1:] + "\n") // which is quoted
		checkPrint(t, "some bytes more", mapOf(longer...), "", api.ErrLong)
	}
	checkPrint(t, "one more key", mapOf(append(l, key("e", mapOf()))...), "", api.ErrLong)
	var great []api.Keyed
	for i := range api.MaxParts {
		great = append(great, key("k"+strconv.Itoa(i), listOf(slices.Repeat([]string{part}, api.MaxParts)...)))
	}
	checkPrint(t, "much", mapOf(great...), "", api.ErrLong)
	great[255].Key = "k0"
	checkPrint(t, "much, and not right", mapOf(great...), "", api.ErrConf)
}

// TestP126ThereAndBack reads again what is printed, and holds it against a model.
func TestP126ThereAndBack(t *testing.T) {
	m := newModel()
	r := rand.New(rand.NewPCG(12, 6))
	printed := 0
	for range 6000 {
		n := someNode(r, 0, true)
		s, why := conf.Print(n)
		want := m.print(n, 0)
		if len(want) > 16384 {
			if why != api.ErrLong || s != "" {
				t.Fatalf("Print of %d bytes: error %d", len(want), why)
			}
			continue
		}
		if s != want || why != api.OK {
			t.Fatalf("Print of %s: error %d, %s\nwant %s", shown(n), why, brief(s), brief(want))
		}
		back, why, line := conf.Parse(s)
		if !same(back, n) || why != api.OK || line != 0 {
			t.Fatalf("%s is printed as %s, and read as %s, error %d in line %d", shown(n), brief(s), shown(back), why, line)
		}
		printed++
	}
	if printed < 3000 {
		t.Errorf("%d were printed", printed)
	}
	for name, n := range fine() {
		s, why := conf.Print(n)
		back, whyBack, _ := conf.Parse(s)
		if why == api.OK && (!same(back, n) || whyBack != api.OK) {
			t.Errorf("%s is read again as %s, error %d", name, shown(back), whyBack)
		}
	}
}

// TestP126ReadIsRight prints all that is read, and reads it again.
func TestP126ReadIsRight(t *testing.T) {
	r := rand.New(rand.NewPCG(12, 60))
	for range 20000 {
		s := someConf(r)
		n, why, _ := conf.Parse(s)
		if why != api.OK {
			continue
		}
		printed, whyPrint := conf.Print(n)
		back, whyBack, _ := conf.Parse(printed)
		if conf.Check(n) != api.OK || !right(n, 0) || whyPrint == api.OK && (!same(back, n) || whyBack != api.OK) || whyPrint != api.OK && (whyPrint != api.ErrLong || len(s) < 8192) {
			t.Fatalf("%s is read as %s, printed with error %d as %s, read again with error %d as %s", brief(s), shown(n), whyPrint, brief(printed), whyBack, shown(back))
		}
	}
}

// TestP122Random holds Check against the tests' own.
func TestP122Random(t *testing.T) {
	r := rand.New(rand.NewPCG(12, 2))
	counts := map[bool]int{}
	for range 6000 {
		n := someNode(r, r.IntN(12)/11, false)
		want := api.OK
		if n.Kind != api.NodeMap || !right(n, 0) {
			want = api.ErrConf
		}
		counts[want == api.OK]++
		if why := conf.Check(n); why != want {
			t.Fatalf("Check of %s: error %d", shown(n), why)
		}
		if _, why := conf.Print(n); (why == api.ErrConf) != (want == api.ErrConf) {
			t.Fatalf("Print of %s: error %d", shown(n), why)
		}
	}
	if counts[true] < 500 || counts[false] < 500 {
		t.Error("right, and not:", counts)
	}
}
