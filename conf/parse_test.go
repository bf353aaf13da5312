package conf_test

import (
	"fmt"
	"math/rand/v2"
	"strconv"
	"strings"
	"testing"

	"penstock/api"
	"penstock/conf"
)

func TestP121Example(t *testing.T) {
	want := mapOf(key("a", under("b", listOf("x", "y z"))), key("c", textOf("5s")))
	checkParse(t, "the chapter's example", "a:\n  b: [x, \"y z\"] # list\nc: 5s\n", want)
}

func TestP121Nothing(t *testing.T) {
	for _, s := range []string{"", " ", "   ", "#", "  # a: b", "#a\n\n  \n # \x00\xff\t\r"} {
		checkParse(t, "nothing", s, mapOf())
	}
}

func TestP121Long(t *testing.T) {
	full := strings.Repeat("#", api.MaxConf)
	for _, s := range []string{full, strings.Repeat("\n", api.MaxConf), full[1:]} {
		n, why, line := conf.Parse(s)
		if !same(n, mapOf()) || why != api.OK || line != 0 {
			t.Errorf("Parse of %d bytes: error %d in line %d", len(s), why, line)
		}
	}
	checkRefused(t, "one byte more", full+"#", api.ErrLong, 0)
	checkRefused(t, "one byte more, and no line", "\x00"+full, api.ErrLong, 0)
	checkRefused(t, "much", strings.Repeat("x\n", 1<<20), api.ErrLong, 0)
}

func TestP121Keys(t *testing.T) {
	var all []byte
	for b := range 256 {
		c := byte(b)
		is := c >= 'a' && c <= 'z' || c >= 'A' && c <= 'Z' || c >= '0' && c <= '9' || strings.IndexByte("_-/.", c) >= 0
		k := string([]byte{c})
		for _, k := range []string{k, k + "a", "a" + k, "a" + k + "b"} {
			switch {
			case is:
				checkParse(t, "a key", k+": x", under(k, textOf("x")))
			case c != ' ' && c != '#' && c != ':' && c != '\n' || k[0] == 'a' && c != ':' && c != '\n':
				checkRefused(t, "no key", k+": x", api.ErrConf, 1)
				checkRefused(t, "no key", "b:\n  "+k+":", api.ErrConf, 2)
			}
		}
		if is {
			all = append(all, c)
		}
	}
	longest := string(all[:64])
	if len(all) != 66 {
		t.Errorf("%d bytes may be in keys", len(all))
	}
	checkParse(t, "a key of 64", longest+":", under(longest, mapOf()))
	checkParse(t, "a key of 64", longest+": \"x\"", under(longest, textOf("x")))
	for _, s := range []string{longest + "a: b", longest + longest + ":", ": b", ":", " : b", "é: b", "a", "a b", "a#: b", "- a", "\"a\": b", "a : b", "a\t: b"} {
		checkRefused(t, "no key", s, api.ErrConf, 1)
	}
}

func TestP121NoValue(t *testing.T) {
	for _, s := range []string{"k:", "k: ", "k:    ", "k: #", "k: # x", "k:   #x", "k: #\x00\xff"} {
		checkParse(t, "a key alone", s, under("k", mapOf()))
		checkParse(t, "a key and its map", s+"\n a: b", under("k", under("a", textOf("b"))))
	}
	for _, s := range []string{"k:#", "k:# x", "k:x", "k:\"x\"", "k:[x]", "k:[]", "k::", "k:\t", "k: \t", "k:\tx", "k:\r", "k: \r", "k:\x00", "k: \x7f"} {
		checkRefused(t, "no line", s, api.ErrConf, 1)
		checkRefused(t, "no line", "# x\n"+s+"\nx", api.ErrConf, 2)
	}
}

func TestP121Plain(t *testing.T) {
	for _, s := range []string{"x", "5s", "a b", "a   b", "a:", "a: b", ":", ":a", "-", "- a", "?", "~", "=", "\\", "\\n", "a\"b", "a\"", "a#b", "a#", "a##", "x]", "a[]", "a{", "a, b", "a*", "é", "\xff", "\x80\xfe", "a \xff b", "$", "(", ")", ";", "^", "/", "true", strings.Repeat("x", api.MaxText)} {
		checkValue(t, "a plain text", s, textOf(s))
	}
	for b := range 256 {
		c := string([]byte{byte(b)})
		switch {
		case b == '\n' || b == ' ' || b == '#':
		case b < ' ' || b == 0x7f:
			checkNoValue(t, "a control", c)
			checkNoValue(t, "a control behind", "a"+c)
			checkNoValue(t, "a control between", "a"+c+"b")
		case strings.Contains("\"[]{},&*!|>'%@`", c):
			checkNoValue(t, "a special byte", c)
			checkNoValue(t, "a special byte ahead", c+"a")
			checkValue(t, "a special byte behind", "a"+c, textOf("a"+c))
			checkValue(t, "a special byte between", "a"+c+"b", textOf("a"+c+"b"))
			checkValue(t, "a special byte behind a space", "a "+c+"b", textOf("a "+c+"b"))
		default:
			checkValue(t, "a byte", c, textOf(c))
			checkValue(t, "bytes", c+"a "+c+"b"+c, textOf(c+"a "+c+"b"+c))
		}
	}
	checkParse(t, "a # behind a space", "k: a #b", under("k", textOf("a")))
	checkParse(t, "a # behind spaces", "k: a#b   ## c", under("k", textOf("a#b")))
	checkParse(t, "a control behind a #", "k: a #\x00\x7f", under("k", textOf("a")))
}

func TestP121Quoted(t *testing.T) {
	for s, want := range map[string]string{
		`""`: "", `" "`: " ", `"a"`: "a", `"\\"`: `\`, `"\""`: `"`, `"\n"`: "\n", `"\t"`: "\t", `"\\n"`: `\n`, `"\\\n\\"`: "\\\n\\",
		`" # "`: " # ", `"#"`: "#", `"[a]"`: "[a]", `"a: b"`: "a: b", `"é"`: "é", "\"\xff\x80\"": "\xff\x80", `"\"\\\"\t\t"`: "\"\\\"\t\t", `"'"`: "'",
	} {
		checkValue(t, "a quoted text", s, textOf(want))
	}
	for _, s := range []string{`"`, `"a`, `"a" b`, `"a"b`, `"a""b"`, `"\"`, `"a\"`, `"\`, `"""`, `"\x"`, `"\ "`, `"\r"`, `"\0"`, `"\N"`, `"\u0041"`, `"\'"`, `'a'`, `"a"#`, `"a"# b`, `"a" "b"`, `"a",`, `"a":`} {
		checkNoValue(t, "no quoted text", s)
	}
	for b := range 256 {
		c := string([]byte{byte(b)})
		switch {
		case b == '\n' || b == '"' || b == '\\':
		case b < ' ' || b == 0x7f:
			checkNoValue(t, "a control", `"`+c+`"`)
			checkNoValue(t, "a control", `"a\n`+c+`b"`)
		default:
			checkValue(t, "a byte", `"`+c+`"`, textOf(c))
		}
		if !strings.Contains("\\\"nt\n", c) {
			checkNoValue(t, "what is no escape", `"\`+c+`"`)
		}
	}
	long := strings.Repeat("x", api.MaxText-2)
	checkValue(t, "a long one", `"`+long+`\\\n"`, textOf(long+"\\\n"))
}

func TestP121List(t *testing.T) {
	for s, want := range map[string][]string{
		"[]": nil, "[ ]": nil, "[    ]": nil, "[a]": {"a"}, "[ a ]": {"a"}, "[a,b]": {"a", "b"}, "[a, b]": {"a", "b"}, "[  a  ,  b  ]": {"a", "b"}, "[a ,b,c]": {"a", "b", "c"},
		`[""]`: {""}, `[ "" , "" ]`: {"", ""}, `["a b", c]`: {"a b", "c"}, `[a, "]"]`: {"a", "]"}, `[",", "#", " #", "\n"]`: {",", "#", " #", "\n"}, `["\"", "\\"]`: {`"`, `\`},
		"[a#b, a#]": {"a#b", "a#"}, "[-, ~, 5s, \\n]": {"-", "~", "5s", "\\n"}, "[é, \xff]": {"é", "\xff"}, "[a, a]": {"a", "a"}, `["a","b"]`: {"a", "b"},
	} {
		checkValue(t, "a list", s, listOf(want...))
	}
	for _, s := range []string{
		"[", "[a", "[a,", "[a,]", "[,]", "[,a]", "[a,,b]", "[a, ,b]", "[ , ]", "[a b]", "[a:b]", "[a: b]", "[:]", "[#]", "[#a]", "[a #b]", "[a, #b]", "[a] b", "[a]]", "[[a]]", "[a, [b]]", "[]]", "[]a",
		"[a]#", "[a]# b", "[a]#b", `["a]`, `["a"b]`, `["a" b]`, `[b"a"]`, `["a""b"]`, `["a" "b"]`, "[\t]", "[a\t]", "[a,\tb]", "[\x7f]", "{}", "{a}", "[a}", `["\x"]`, "]", "[a] [b]", "[a],",
	} {
		checkNoValue(t, "no list", s)
	}
	for b := range 256 {
		c := string([]byte{byte(b)})
		switch {
		case b == '\n' || b == ' ' || b == ',' || b == '#':
		case b < ' ' || b == 0x7f || strings.Contains("\"[]{}&*!|>'%@`:", c):
			checkNoValue(t, "no word", "[x, a"+c+"b]")
			if c != "]" {
				checkNoValue(t, "no word", "["+c+"]")
			}
		default:
			checkValue(t, "a word", "["+c+", a"+c+"b]", listOf(c, "a"+c+"b"))
		}
	}
}

func TestP121Indents(t *testing.T) {
	x := textOf("x")
	checkParse(t, "maps side by side", "a:\n  b: x\nc:\n  b: x", mapOf(key("a", under("b", x)), key("c", under("b", x))))
	checkParse(t, "empty maps", "a:\nb:\nc: x\nd:", mapOf(key("a", mapOf()), key("b", mapOf()), key("c", x), key("d", mapOf())))
	checkParse(t, "maps in maps", "a:\n b:\n   c: x\n   d: x\n e: x\nf: x", mapOf(key("a", mapOf(key("b", mapOf(key("c", x), key("d", x))), key("e", x))), key("f", x)))
	checkParse(t, "others each time", "a:\n     b: x\nc:\n b:\n   d: x", mapOf(key("a", under("b", x)), key("c", under("b", under("d", x)))))
	checkParse(t, "from far within to without", "a:\n b:\n  c:\n   d: x\ne: x", mapOf(key("a", under("b", under("c", under("d", x)))), key("e", x)))
	checkParse(t, "an empty map at the end of one", "a:\n b: x\n c:\nd: x", mapOf(key("a", mapOf(key("b", x), key("c", mapOf()))), key("d", x)))
	for s, line := range map[string]int{
		" a: x": 1, "\n\n   a: x": 3, " a:\n  b: x": 1,
		"a: x\n b: x": 2, "a: []\n b: x": 2, "a: \"\"\n b: x": 2, "a:\n  b: x\n c: x": 3, "a:\n  b: x\n   c: x": 3, "a:\n  b: x\n    c: x": 3,
		"a:\n  b:\n c: x": 3, "a:\n b:\n    c: x\n   d: x": 4, "a:\n b:\n    c: x\n  d: x": 4, "a:\n   b:\n  c: x": 3, "a:\n  b:\n     c:\n    d: x": 4,
		"a:\nb: x\n c: x": 3, "a:\n b: x\nc: x\n d: x": 4, "a:\n b:\n  c: x\nd: x\n e: x": 5,
	} {
		checkRefused(t, "indented otherwise", s, api.ErrConf, line)
	}
}

// deep is a key without a value in so many maps, each but the outermost one in one.
func deep(maps int) string {
	s := ""
	for i := range maps {
		s += strings.Repeat(" ", i) + "k:\n"
	}
	return s
}

func TestP121Depth(t *testing.T) {
	for n := 1; n <= api.MaxDepth; n++ {
		checkParse(t, "keys in keys", deep(n), under0(n))
	}
	checkParse(t, "a text in them", deep(8)+"        k: x", nested(9))
	checkRefused(t, "one more", deep(9), api.ErrDepth, 9)
	checkRefused(t, "one more, and blanks", "\n# x\n"+strings.ReplaceAll(deep(9), "\n", "\n\n"), api.ErrDepth, 19)
	checkRefused(t, "one more, which has a comment", deep(8)+"        k: # x", api.ErrDepth, 9)
}

// under0 has so many maps, each in one, the innermost one being empty.
func under0(n int) api.Node {
	x := mapOf()
	for range n {
		x = under("k", x)
	}
	return x
}

func TestP121Texts(t *testing.T) {
	long := strings.Repeat("x", api.MaxText)
	checkParse(t, "as long as may be", "k: "+long, under("k", textOf(long)))
	checkRefused(t, "a plain one", "k: "+long+"x", api.ErrLong, 1)
	checkRefused(t, "a plain one behind others", "a: b\n\nk: "+long+"x # c", api.ErrLong, 3)
	checkRefused(t, "a quoted one", "k: \""+long+"x\"", api.ErrLong, 1)
	checkRefused(t, "one with an escape", "k: \""+long+"\\n\"", api.ErrLong, 1)
	checkParse(t, "one that is longer as it stands", "k: \"\\t"+long[1:]+"\"", under("k", textOf("\t"+long[1:])))
	checkParse(t, "words", "k: ["+long+", \""+long+"\"]", under("k", listOf(long, long)))
	checkRefused(t, "a word", "k: [a, "+long+"x, b]", api.ErrLong, 1)
	checkRefused(t, "one in a list", "k: [\""+long+"x\"]", api.ErrLong, 1)
	checkParse(t, "a long comment", "k: a #"+long+long, under("k", textOf("a")))
}

func TestP121Many(t *testing.T) {
	words := strings.Repeat("a,", api.MaxParts-1) + "b"
	n, why, line := conf.Parse("k: [" + words + "]")
	if l := n.Keys[0].Node.List; len(l) != api.MaxParts || why != api.OK || line != 0 || l[254] != "a" || l[255] != "b" {
		t.Errorf("a list: error %d, %d items", why, len(l))
	}
	checkRefused(t, "a list", "a: b\nk: ["+words+", c]", api.ErrMany, 2)
	checkRefused(t, "a list of quoted texts", "k: ["+strings.Repeat("\"\",", api.MaxParts)+"\"\"]", api.ErrMany, 1)
	keys := ""
	var l []api.Keyed
	for i := range api.MaxParts {
		keys += " k" + strconv.Itoa(i) + ":\n"
		l = append(l, key("k"+strconv.Itoa(i), mapOf()))
	}
	checkParse(t, "a map", "m:\n"+keys+"n: x", mapOf(key("m", mapOf(l...)), key("n", textOf("x"))))
	checkRefused(t, "a map", "m:\n"+keys+" k: x", api.ErrMany, 258)
	checkRefused(t, "a map, other maps between", "m:\n"+keys+"  a: x\n k: x", api.ErrMany, 259)
	checkRefused(t, "the outermost map", strings.ReplaceAll(keys, " ", "")+"k:", api.ErrMany, 257)
}

func TestP121Twice(t *testing.T) {
	for s, line := range map[string]int{"a: x\na: x": 2, "a: x\nb: x\na:": 3, "a:\n a: x\na: x": 3, "a:\n b: x\n b: x": 3, "a:\n b: x\n c:\n  b: x\n b: x": 5, "a: x\n\n# c\na: y": 4} {
		checkRefused(t, "a key twice", s, api.ErrConf, line)
	}
	x := textOf("x")
	checkParse(t, "a key in several maps", "a:\n a:\n  a: x\nb:\n a: x\nA: x", mapOf(key("a", under("a", under("a", x))), key("b", under("a", x)), key("A", x)))
}

// TestP121Order has lines of which several things are wrong.
func TestP121Order(t *testing.T) {
	long := strings.Repeat("x", api.MaxText+1)
	words := strings.Repeat("a,", api.MaxParts) + "b"
	keys := ""
	for i := range api.MaxParts {
		keys += "k" + strconv.Itoa(i) + ":\n"
	}
	inner := strings.ReplaceAll("\n"+strings.TrimSuffix(keys, "\n"), "\n", "\n        ") + "\n"
	d := deep(8)
	checkRefused(t, "no line ahead of its indentation", "a: x\n  b: "+long+" \x00", api.ErrConf, 2)
	checkRefused(t, "its indentation ahead of ErrDepth", d+"        k: x\n         l:", api.ErrConf, 10)
	checkRefused(t, "its indentation ahead of ErrLong", "a: x\n b: "+long, api.ErrConf, 2)
	checkRefused(t, "its indentation ahead of ErrMany", "a: x\n b: ["+words+"]", api.ErrConf, 2)
	checkRefused(t, "ErrDepth ahead of the key", d+"        k: x\n        k:", api.ErrDepth, 10)
	checkRefused(t, "ErrDepth ahead of ErrMany", d+inner[1:]+"        k:", api.ErrDepth, 9)
	checkRefused(t, "ErrLong ahead of ErrMany of the list", "k: [\""+long+"\","+words+"]", api.ErrLong, 1)
	checkRefused(t, "ErrLong ahead of ErrMany of the list", "k: ["+words+",\""+long+"\"]", api.ErrLong, 1)
	checkRefused(t, "ErrLong ahead of the key", "a:\na: "+long, api.ErrLong, 2)
	checkRefused(t, "ErrLong ahead of ErrMany of the map", keys+"k: "+long, api.ErrLong, 257)
	checkRefused(t, "ErrMany of the list ahead of the key", "a:\na: ["+words+"]", api.ErrMany, 2)
	checkRefused(t, "ErrMany of the list ahead of that of the map", keys+"k: ["+words+"]", api.ErrMany, 257)
	checkRefused(t, "the key ahead of ErrMany of the map", keys+"k7: x", api.ErrConf, 257)
	checkRefused(t, "ErrMany of the map", keys+"k: x", api.ErrMany, 257)
	checkRefused(t, "the first line", "a: "+long+"\nb", api.ErrLong, 1)
	checkRefused(t, "the first line", "a: ["+words+"]\nb: "+long, api.ErrMany, 1)
	checkRefused(t, "the first line", "b\na: "+long, api.ErrConf, 1)
	checkRefused(t, "the first line", keys+"k:\nb", api.ErrMany, 257)
	checkRefused(t, "the first line", d+"        k:\nb", api.ErrDepth, 9)
}

func TestP127Blanks(t *testing.T) {
	s := "a:\n  b: x\n  c:\n    d: [y, z]\n    e: \"# f\"\ng: h#i\n"
	want, why, _ := conf.Parse(s)
	if why != api.OK {
		t.Fatalf("Parse: error %d", why)
	}
	for _, blank := range []string{"\n", "   \n", "# x\n", "         # x: y\n", "#\x00\xff\t\n", "\n\n \n#\n"} {
		checkParse(t, "blanks ahead of each line", blank+strings.ReplaceAll(s, "\n", "\n"+blank), want)
	}
	for _, end := range []string{" ", "    ", " #", "  # x: y", " #\t\x00\xff"} {
		checkParse(t, "blanks behind each line", strings.ReplaceAll(s, "\n", end+"\n"), want)
	}
	for _, end := range []string{"\t", "\r", " \r", "\t# x", "\x00"} {
		checkRefused(t, "no blanks", strings.ReplaceAll(s, "\n", end+"\n"), api.ErrConf, 1)
	}
	for _, line := range []string{"\t", "\r", "  \t# x", "\x00", "\xa0"} {
		checkRefused(t, "no blank line", "a: b\n"+line+"\nc: d", api.ErrConf, 2)
	}
}

// TestP121Random is held against a model; so P1 is, too.
func TestP121Random(t *testing.T) {
	m := newModel()
	r := rand.New(rand.NewPCG(12, 1))
	counts := map[api.Errno]int{}
	for range 40000 {
		s := someConf(r)
		n, why, line := conf.Parse(s)
		want, wantWhy, wantLine := m.parse(s)
		if !same(n, want) || why != wantWhy || line != wantLine {
			t.Fatalf("read of %s: error %d in line %d, %s\nwant %d in line %d, %s", brief(s), why, line, shown(n), wantWhy, wantLine, shown(want))
		}
		counts[why]++
		if why == api.OK && conf.Check(n) != api.OK {
			t.Fatalf("read of %s: not right: %s", brief(s), shown(n))
		}
	}
	if counts[api.OK] < 4000 || counts[api.ErrConf] < 4000 || counts[api.ErrLong] < 20 {
		t.Error("errors:", fmt.Sprint(counts))
	}
}
