package attrs_test

import (
	"math"
	"math/rand/v2"
	"strconv"
	"strings"
	"testing"

	"penstock/api"
	"penstock/attrs"
	"penstock/conf"
)

// texts are those of actions.
func texts() map[string]api.Action {
	l := map[string]api.Action{
		"insert a text:x y":              insert("a", text("x y")),
		"update a text:x":                update("a", text("x")),
		"upsert a text:x":                upsert("a", text("x")),
		"delete a":                       remove("a"),
		"hash a":                         hash("a"),
		"hash text:x":                    hash("text:x"),
		"delete insert":                  remove("insert"),
		"insert insert text:insert":      insert("insert", text("insert")),
		"insert int:1 int:1":             insert("int:1", whole(1)),
		"insert é.é-/\"\\ text:é":        insert("é.é-/\"\\", text("é")),
		"delete a\tb":                    remove("a\tb"),
		"insert a\nb bool:true":          insert("a\nb", truth(true)),
		"insert : bool:true":             insert(":", truth(true)),
		"insert \u00a0 bool:true":        insert("\u00a0", truth(true)),
		"insert A bool:true":             insert("A", truth(true)),
		"upsert \n text:\t\n":            upsert("\n", text("\t\n")),
		"update a bits:3ff8000000000000": update("a", part(1.5)),
	}
	for s, v := range map[string]api.Value{
		"text:": text(""), "text: ": text(" "), "text:  x  y  ": text("  x  y  "), "text:text:x": text("text:x"), "text:int:1": text("int:1"), "text::": text(":"), "text: insert b text:y": text(" insert b text:y"), "text:-0": text("-0"),
		"int:0": whole(0), "int:1": whole(1), "int:-1": whole(-1), "int:10": whole(10), "int:-10": whole(-10), "int:9": whole(9),
		"int:4611686018427387904": whole(1 << 62), "int:4611686018427387903": whole(1<<62 - 1), "int:-4611686018427387904": whole(-1 << 62), "int:-4611686018427387903": whole(-1<<62 + 1), "int:9007199254740993": whole(1<<53 + 1),
		"bool:true": truth(true), "bool:false": truth(false),
		"bits:0000000000000000": part(0), "bits:8000000000000000": part(minus), "bits:3ff0000000000000": part(1), "bits:7ff0000000000000": part(math.Inf(1)), "bits:fff0000000000000": part(math.Inf(-1)),
		"bits:7ff8000000000001": bits(0x7ff8000000000001), "bits:7ff0000000000001": bits(0x7ff0000000000001), "bits:ffffffffffffffff": bits(1<<64 - 1), "bits:0000000000000001": bits(1), "bits:0123456789abcdef": bits(0x0123456789abcdef), "bits:fedcba9876543210": bits(0xfedcba9876543210), "bits:7ff8000000000000": bits(0x7ff8000000000000),
	} {
		l["insert k "+s] = insert("k", v)
		l["update k "+s] = update("k", v)
		l["upsert k "+s] = upsert("k", v)
	}
	return l
}

// noTexts are none of actions.
func noTexts() []string {
	l := []string{
		"", " ", "insert", "insert ", "insert a", "insert a ", "insert  text:x", "insert text:x", "insert  a text:x", " insert a text:x", "insert a  text:x", "insert\ta text:x", "insert a\ttext:x", "insert\u00a0a text:x",
		"Insert a text:x", "INSERT a text:x", "inser a text:x", "inserts a text:x", "put a text:x", "none a", "none a text:x", "set a text:x", "0 a text:x", "1 a text:x",
		"delete", "delete ", "delete  ", "delete  a", " delete a", "delete a ", "delete a b", "delete a text:x", "delete a  ", "Delete a", "remove a", "delete\ta",
		"hash", "hash ", "hash a ", "hash a b", "hash  a", "hash a text:x", "hash a int:0", "Hash a", "hashes a", "ahash",
		"updatea text:x", "upserta", "a insert text:x", "text:x", "int:1", "insert:a text:x",
	}
	for _, s := range []string{
		"x", "x y", "text", "Text:x", "TEXT:x", "string:x", " text:x", "tex:x", "texts:x", ":x", ":",
		"int:", "int", "int: 1", "int:1 ", "int: ", "int:-", "int:--1", "int:+1", "int:+0", "int:-0", "int:00", "int:01", "int:-01", "int:007", "int:1.0", "int:1e3", "int:0x1", "int:0b1", "int:1_0", "int:a", "int:١", "int:1\n", "Int:1",
		"int:4611686018427387905", "int:-4611686018427387905", "int:9223372036854775807", "int:-9223372036854775808", "int:9223372036854775808", "int:18446744073709551616", "int:99999999999999999999", "int:-99999999999999999999", "int:" + strings.Repeat("9", 4000), "int:" + strings.Repeat("0", 4000),
		"bool:", "bool", "bool:True", "bool:TRUE", "bool:1", "bool:0", "bool:t", "bool:f", "bool:yes", "bool: true", "bool:true ", "bool:truefalse", "bool:FALSE", "Bool:true",
		"bits:", "bits", "bits:0", "bits:000000000000000", "bits:00000000000000000", "bits:3FF0000000000000", "bits:3ff000000000000G", "bits:3ff000000000000g", "bits:0x3ff0000000000", "bits: 3ff0000000000000", "bits:3ff0000000000000 ", "bits: 3ff000000000000", "bits:-ff0000000000000", "bits:+ff0000000000000", "bits:3ff000000000000_", "bits:fffffffffffffffff", "bits:FFFFFFFFFFFFFFFF", "bits:fffffffffffffffF", "Bits:3ff0000000000000",
		"float:1", "float:1.5", "bytes:x", "list:", "map:", "none:", "list:text:x",
	} {
		l = append(l, "insert a "+s, "update a "+s, "upsert a "+s)
	}
	return l
}

func TestP141ReadTexts(t *testing.T) {
	for s, a := range texts() {
		checkRead(t, strconv.Quote(s), actionsNode(s), items(a), api.OK)
		checkRead(t, strconv.Quote(s)+" between others", actionsNode("delete x", s, "hash y"), items(remove("x"), a, hash("y")), api.OK)
	}
	for _, s := range noTexts() {
		checkRead(t, strconv.Quote(s), actionsNode(s), api.Attrs{}, api.ErrConf)
		checkRead(t, strconv.Quote(s)+" between others", actionsNode("delete x", s, "hash y"), api.Attrs{}, api.ErrConf)
		checkRead(t, strconv.Quote(s)+" as the last", actionsNode("delete x", s), api.Attrs{}, api.ErrConf)
	}
}

func TestP141ReadNodes(t *testing.T) {
	a := insert("a", text("x y"))
	actions := key("actions", listNode("insert a text:x y", "hash b"))
	checkRead(t, "nothing", mapNode(), api.Attrs{}, api.OK)
	checkRead(t, "the kind alone", mapNode(key("kind", textNode("attributes"))), api.Attrs{}, api.OK)
	checkRead(t, "actions alone", mapNode(actions), items(a, hash("b")), api.OK)
	checkRead(t, "no actions", mapNode(key("actions", listNode())), api.Attrs{}, api.OK)
	checkRead(t, "on resources", mapNode(actions, key("on", textNode("resource"))), resources(a, hash("b")), api.OK)
	checkRead(t, "on items", mapNode(key("on", textNode("item")), actions), items(a, hash("b")), api.OK)
	checkRead(t, "on resources alone", mapNode(key("on", textNode("resource"))), resources(), api.OK)
	checkRead(t, "on items alone", mapNode(key("on", textNode("item"))), items(), api.OK)
	checkRead(t, "all", mapNode(key("on", textNode("resource")), actions, key("kind", textNode("attributes"))), resources(a, hash("b")), api.OK)
	for _, kind := range []api.Node{textNode(""), textNode("filter"), listNode("x"), mapNode(key("kind", textNode("x")))} {
		checkRead(t, "any kind", mapNode(key("kind", kind), actions), items(a, hash("b")), api.OK)
	}
	for _, on := range []api.Node{textNode(""), textNode("items"), textNode("Item"), textNode("resources"), textNode("RESOURCE"), textNode("scope"), textNode(" item"), textNode("resource "), listNode(), listNode("resource"), listNode("item"), mapNode(), mapNode(key("resource", textNode("item")))} {
		checkRead(t, "on what is neither", mapNode(key("on", on), actions), api.Attrs{}, api.ErrConf)
	}
	for _, x := range []api.Node{textNode(""), textNode("delete a"), textNode("[delete a]"), mapNode(), mapNode(key("delete", textNode("a")))} {
		checkRead(t, "actions that are no list", mapNode(key("actions", x)), api.Attrs{}, api.ErrConf)
	}
	for _, k := range []string{"action", "Actions", "On", "kinds", "drop", "size", "resource", "item", "a"} {
		for _, x := range []api.Node{textNode("item"), listNode("delete a"), listNode(), mapNode()} {
			checkRead(t, "another key", mapNode(actions, key(k, x)), api.Attrs{}, api.ErrConf)
			checkRead(t, "another key alone", mapNode(key(k, x)), api.Attrs{}, api.ErrConf)
		}
	}
}

// TestP141ReadConf has nodes that conf.Check refuses.
func TestP141ReadConf(t *testing.T) {
	long := strings.Repeat("x", api.MaxText)
	fits := long[:api.MaxText-len("delete ")]
	checkRead(t, "a long key", actionsNode("delete "+fits), items(remove(fits)), api.OK)
	fits = long[:api.MaxText-len("insert a text:")]
	checkRead(t, "a long value", actionsNode("insert a text:"+fits), items(insert("a", text(fits))), api.OK)
	var most []string
	var all []api.Action
	for i := range api.MaxParts {
		most, all = append(most, "delete "+strconv.Itoa(i)), append(all, remove(strconv.Itoa(i)))
	}
	checkRead(t, "as many as may be", actionsNode(most...), items(all...), api.OK)
	for name, n := range map[string]api.Node{
		"too many":           actionsNode(append(most, "delete x")...),
		"a text":             textNode("delete a"),
		"a list":             listNode("delete a"),
		"no kind":            {Kind: api.NodeCount},
		"a key too long":     actionsNode("delete " + long),
		"a text too long":    actionsNode("insert a text:" + long),
		"a key twice":        mapNode(key("on", textNode("item")), key("on", textNode("item"))),
		"a map with more":    {Text: "x"},
		"a control":          actionsNode("delete a\x01"),
		"no key":             mapNode(key("", textNode("x"))),
		"a list with a text": mapNode(key("actions", api.Node{Kind: api.NodeList, Text: "x"})),
		"kind that is none":  mapNode(key("kind", api.Node{Kind: 9})),
	} {
		if why := conf.Check(n); why != api.ErrConf {
			t.Fatalf("%s is right", name)
		}
		checkRead(t, name, n, api.Attrs{}, api.ErrConf)
	}
}

// TestP141ReadUtf has keys and values that are no UTF-8: all that is ErrConf is told ahead of them.
func TestP141ReadUtf(t *testing.T) {
	for _, s := range []string{"delete \xff", "hash a\xc3", "insert \xff int:1", "update a text:\xff", "upsert a text:x \xc3 y", "insert \xff text:\xff", "insert \xed\xa0\x80 bool:true"} {
		checkRead(t, strconv.Quote(s), actionsNode(s), api.Attrs{}, api.ErrUtf)
		checkRead(t, strconv.Quote(s)+" behind others", actionsNode("delete a", s, "delete \xff"), api.Attrs{}, api.ErrUtf)
		checkRead(t, strconv.Quote(s)+", and what is none", actionsNode(s, "delete"), api.Attrs{}, api.ErrConf)
		checkRead(t, strconv.Quote(s)+", and another key", mapNode(key("actions", listNode(s)), key("x", mapNode())), api.Attrs{}, api.ErrConf)
		checkRead(t, strconv.Quote(s)+", on what is neither", mapNode(key("actions", listNode(s)), key("on", textNode("x"))), api.Attrs{}, api.ErrConf)
	}
	for _, s := range []string{"\xff a text:x", "insert a \xff", "insert a int:\xff", "insert a bits:\xff00000000000000", "delete \xff \xff", "insert \xff int:01", "delete\xff"} {
		checkRead(t, strconv.Quote(s), actionsNode(s), api.Attrs{}, api.ErrConf)
	}
}

func checkText(t *testing.T, a api.Action, want string, wantWhy api.Errno) {
	t.Helper()
	s, why := attrs.Text(a)
	check(t, "Text of "+brief(a), s, why, want, wantWhy)
}

func TestP141Text(t *testing.T) {
	for s, a := range texts() {
		checkText(t, a, s, api.OK)
	}
	long := strings.Repeat("x", api.MaxText)
	checkText(t, insert(long, text(long)), "insert "+long+" text:"+long, api.OK)
	checkText(t, remove(long), "delete "+long, api.OK)
	checkText(t, remove("a\x01\x7f"), "delete a\x01\x7f", api.OK)
	for _, k := range []string{"", " ", "a b", " a", "a ", "  "} {
		for _, a := range []api.Action{insert(k, text("x")), update(k, text("x")), upsert(k, whole(1)), remove(k), hash(k)} {
			checkText(t, a, "", api.ErrConf)
		}
	}
	for _, v := range []api.Value{bytes(""), bytes("x"), list(), list(text("x")), table(), table(pair("a", text("x"))), whole(1<<62 + 1), whole(-1<<62 - 1), whole(1<<63 - 1), whole(-1 << 63)} {
		if why := attrs.Check(items(insert("a", v))); why != api.OK {
			t.Fatalf("Check: error %d", why)
		}
		for _, a := range []api.Action{insert("a", v), update("a", v), upsert("a", v)} {
			checkText(t, a, "", api.ErrConf)
		}
	}
	for name, a := range wrong() {
		s, why := attrs.Text(a)
		check(t, "Text of "+name, s, why, "", api.ErrConf)
	}
}

func TestP147ThereAndBack(t *testing.T) {
	r := rand.New(rand.NewPCG(14, 7))
	had := 0
	for range 5000 {
		a := someAction(r)
		s, why := attrs.Text(a)
		if why != api.OK {
			continue
		}
		had++
		checkRead(t, strconv.Quote(s), actionsNode(s), items(a), api.OK)
	}
	if had < 1000 {
		t.Errorf("%d texts only", had)
	}
}

// TestP147OneText has what is a text nearly: what is read of it is written as it stood.
func TestP147OneText(t *testing.T) {
	r := rand.New(rand.NewPCG(14, 8))
	var all []string
	for s := range texts() {
		all = append(all, s)
	}
	had := map[api.Errno]int{}
	for range 20000 {
		s := pick(r, all...)
		for range 1 + r.IntN(2) {
			at := r.IntN(len(s) + 1)
			s = s[:at] + pick(r, "", " ", "0", "-", ":", "x", "F", "1", "\xff") + s[min(len(s), at+r.IntN(2)):]
		}
		a, why := attrs.Read(actionsNode(s))
		had[why]++
		if why != api.OK {
			check(t, "Read beside an error", a, api.OK, api.Attrs{}, api.OK)
			continue
		}
		checkText(t, a.Actions[0], s, api.OK)
	}
	if had[api.OK] < 1000 || had[api.ErrConf] < 1000 || had[api.ErrUtf] < 100 {
		t.Errorf("errors %v", had)
	}
}
