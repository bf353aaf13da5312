package conf_test

import (
	"fmt"
	"maps"
	"math/rand/v2"
	"regexp"
	"slices"
	"strconv"
	"strings"
	"testing"

	"penstock/api"
	"penstock/conf"
)

func textOf(s string) api.Node           { return api.Node{Kind: api.NodeText, Text: s} }
func listOf(l ...string) api.Node        { return api.Node{Kind: api.NodeList, List: l} }
func mapOf(l ...api.Keyed) api.Node      { return api.Node{Keys: l} }
func key(k string, n api.Node) api.Keyed { return api.Keyed{Key: k, Node: n} }
func under(k string, n api.Node) api.Node {
	return mapOf(key(k, n))
}

// nested has so many maps around the text.
func nested(n int) api.Node {
	x := textOf("x")
	for range n {
		x = under("k", x)
	}
	return x
}

// same tells nil and empty lists not apart.
func same(a, b api.Node) bool {
	return a.Kind == b.Kind && a.Text == b.Text && slices.Equal(a.List, b.List) &&
		slices.EqualFunc(a.Keys, b.Keys, func(a, b api.Keyed) bool { return a.Key == b.Key && same(a.Node, b.Node) })
}

func brief(s string) string {
	if len(s) > 300 {
		return strconv.Quote(s[:150]) + ".." + strconv.Quote(s[len(s)-100:]) + " of " + strconv.Itoa(len(s))
	}
	return strconv.Quote(s)
}

func shown(n api.Node) string {
	s := fmt.Sprintf("%d", n.Kind)
	if n.Text != "" {
		s += " " + brief(n.Text)
	}
	if len(n.List) > 0 {
		s += fmt.Sprintf(" %d texts %q", len(n.List), n.List[:min(len(n.List), 5)])
	}
	for _, k := range n.Keys[:min(len(n.Keys), 5)] {
		s += " " + brief(k.Key) + ": (" + shown(k.Node) + ")"
	}
	if n := len(n.Keys); n > 5 {
		s += " and more: " + strconv.Itoa(n)
	}
	return s
}

// checkParse tells what s is read as; so it is without an LF at its end.
func checkParse(t *testing.T, name, s string, want api.Node) {
	t.Helper()
	for _, s := range []string{s, s + "\n", s + "\n\n"} {
		n, why, line := conf.Parse(s)
		if !same(n, want) || why != api.OK || line != 0 {
			t.Errorf("%s: read of %s: error %d in line %d, %s\nwant %s", name, brief(s), why, line, shown(n), shown(want))
		}
	}
}

// checkRefused tells the error of s, and its line.
func checkRefused(t *testing.T, name, s string, want api.Errno, wantLine int) {
	t.Helper()
	n, why, line := conf.Parse(s)
	if !same(n, api.Node{}) || why != want || line != wantLine {
		t.Errorf("%s: read of %s: error %d in line %d, want %d in %d, beside it %s", name, brief(s), why, line, want, wantLine, shown(n))
	}
}

// checkValue tells what stands behind a key, with blanks and a comment, too.
func checkValue(t *testing.T, name, s string, want api.Node) {
	t.Helper()
	for _, ahead := range []string{"k: ", "k:    "} {
		for _, behind := range []string{"", " ", "   ", " #", "  # \"x\" [\x00\xff"} {
			checkParse(t, name, ahead+s+behind, under("k", want))
		}
	}
}

// checkNoValue tells that what stands behind a key is none.
func checkNoValue(t *testing.T, name, s string) {
	t.Helper()
	checkRefused(t, name, "k: "+s, api.ErrConf, 1)
	checkRefused(t, name, "a: b\n\nk:  "+s+" # c\nd: e", api.ErrConf, 3)
}

func checkPrint(t *testing.T, name string, n api.Node, want string, wantWhy api.Errno) {
	t.Helper()
	s, why := conf.Print(n)
	if s != want || why != wantWhy {
		t.Errorf("%s: Print: %s, error %d\nwant %s, error %d", name, brief(s), why, brief(want), wantWhy)
	}
}

// The patterns of the tests.
const (
	specials  = "\"\\[\\]{},&*!|>'%@`" // as they stand in brackets
	quotedOne = `"(?:[^\x00-\x1f\x7f"\\]|\\[\\"nt])*"`
	wordOne   = `[^\x00-\x20\x7f:#` + specials + `][^\x00-\x20\x7f:` + specials + `]*`
	plainOne  = `[^\x00-\x20\x7f#` + specials + `](?:#| *[^\x00-\x20\x7f#])*`
	itemOne   = ` *(?:` + quotedOne + `|` + wordOne + `) *`
	listOne   = `\[(?: *|` + itemOne + `(?:,` + itemOne + `)*)\]`
	keyOne    = `[A-Za-z0-9_./-]{1,64}`
)

// model reads by patterns.
type model struct {
	line, item, plain, word *regexp.Regexp
	bare                    *regexp.Regexp
}

func newModel() model {
	whole := func(s string) *regexp.Regexp { return regexp.MustCompile(`(?s)^(?:` + s + `)$`) }
	return model{
		line:  whole(`( *)(` + keyOne + `):(?:| +(?:|#.*)| +(` + quotedOne + `|` + listOne + `|` + plainOne + `)(?: *| +#.*))`),
		item:  regexp.MustCompile(quotedOne + `|` + wordOne),
		plain: whole(plainOne),
		word:  whole(wordOne),
		bare:  regexp.MustCompile(`(?s)^ *(#.*)?$`),
	}
}

// read is one line of the model.
type read struct {
	indent, number int
	key            string
	node           api.Node
	around         int // how many maps are around it
}

func unquoted(s string) string {
	if !strings.HasPrefix(s, `"`) {
		return s
	}
	return strings.NewReplacer(`\\`, `\`, `\"`, `"`, `\n`, "\n", `\t`, "\t").Replace(s[1 : len(s)-1])
}

func (m model) value(s string) api.Node {
	switch {
	case s == "":
		return api.Node{}
	case s[0] != '[':
		return textOf(unquoted(s))
	}
	var l []string
	for _, item := range m.item.FindAllString(s[1:len(s)-1], -1) {
		l = append(l, unquoted(item))
	}
	return listOf(l...)
}

// judge tells what is wrong with x behind the lines that are there, and how many maps are around it.
func judge(l []read, x read) (int, api.Errno) {
	indents := []int{0}
	if n := len(l); n > 0 {
		least := l[n-1].indent
		indents = []int{least}
		for _, o := range slices.Backward(l) {
			if o.indent < least {
				least = o.indent
				indents = append(indents, least)
			}
		}
		if l[n-1].node.Kind == api.NodeMap && x.indent > l[n-1].indent {
			indents = append(indents, x.indent)
		}
	}
	slices.Sort(indents)
	around := 1 + slices.Index(indents, x.indent)
	twice, keys := false, 0
	for _, o := range slices.Backward(l) {
		if o.indent < x.indent {
			break
		}
		if o.indent == x.indent {
			keys++
			twice = twice || o.key == x.key
		}
	}
	texts := append(slices.Clone(x.node.List), x.node.Text)
	switch {
	case around == 0:
		return 0, api.ErrConf
	case x.node.Kind == api.NodeMap && around > 8:
		return 0, api.ErrDepth
	case slices.ContainsFunc(texts, func(s string) bool { return len(s) > 4096 }):
		return 0, api.ErrLong
	case len(x.node.List) > 256:
		return 0, api.ErrMany
	case twice:
		return 0, api.ErrConf
	case keys >= 256:
		return 0, api.ErrMany
	}
	return around, api.OK
}

func (m model) parse(s string) (api.Node, api.Errno, int) {
	if len(s) > 16384 {
		return api.Node{}, api.ErrLong, 0
	}
	var l []read
	for i, text := range strings.Split(s, "\n") {
		if m.bare.MatchString(text) {
			continue
		}
		parts := m.line.FindStringSubmatch(text)
		if parts == nil {
			return api.Node{}, api.ErrConf, i + 1
		}
		x := read{indent: len(parts[1]), number: i + 1, key: parts[2], node: m.value(parts[3])}
		around, why := judge(l, x)
		if why != api.OK {
			return api.Node{}, why, i + 1
		}
		x.around = around
		l = append(l, x)
	}
	n, _ := gather(l, 1)
	return n, api.OK, 0
}

// gather is the map of the lines that have so many maps around them, up to one with fewer, and the lines behind it.
func gather(l []read, around int) (api.Node, []read) {
	var n api.Node
	for len(l) > 0 && l[0].around == around {
		x := l[0]
		l = l[1:]
		if x.node.Kind == api.NodeMap {
			x.node, l = gather(l, around+1)
		}
		n.Keys = append(n.Keys, key(x.key, x.node))
	}
	return n, l
}

func (m model) shown(s string, bare *regexp.Regexp) string {
	if bare.MatchString(s) {
		return s
	}
	return `"` + strings.NewReplacer(`\`, `\\`, `"`, `\"`, "\n", `\n`, "\t", `\t`).Replace(s) + `"`
}

func (m model) print(n api.Node, indent int) string {
	s := ""
	for _, k := range n.Keys {
		s += strings.Repeat(" ", indent) + k.Key + ":"
		switch k.Node.Kind {
		case api.NodeText:
			s += " " + m.shown(k.Node.Text, m.plain)
		case api.NodeList:
			var l []string
			for _, item := range k.Node.List {
				l = append(l, m.shown(item, m.word))
			}
			s += " [" + strings.Join(l, ", ") + "]"
		}
		s += "\n" + m.print(k.Node, indent+2)
	}
	return s
}

// right tells whether a node is right, as the tests have it.
func right(n api.Node, around int) bool {
	unfit := regexp.MustCompile(`[\x00-\x08\x0b-\x1f\x7f]`)
	for _, s := range append(slices.Clone(n.List), n.Text) {
		if len(s) > 4096 || unfit.MatchString(s) {
			return false
		}
	}
	had := map[string]int{}
	for _, k := range n.Keys {
		had[k.Key]++
		if !regexp.MustCompile(`^`+keyOne+`$`).MatchString(k.Key) || had[k.Key] > 1 || !right(k.Node, around+1) {
			return false
		}
	}
	has := map[api.NodeKind]bool{api.NodeMap: len(n.Keys) > 0, api.NodeText: n.Text != "", api.NodeList: len(n.List) > 0}
	_, is := has[n.Kind]
	delete(has, n.Kind)
	return is && !slices.Contains(slices.Collect(maps.Values(has)), true) && len(n.List) <= 256 && len(n.Keys) <= 256 && (n.Kind != api.NodeMap || around <= 8)
}

func pick[T any](r *rand.Rand, l ...T) T { return l[r.IntN(len(l))] }

// someText is of bytes that are of some matter.
func someText(r *rand.Rand) string {
	if r.IntN(60) == 0 {
		return strings.Repeat("x", 4090+r.IntN(10))
	}
	s := ""
	for range r.IntN(6) {
		s += pick(r, "a", "b c", " ", "#", " #", "\\", "\"", ":", "[", "]", ",", "é", "\xff", "\n", "\t", "x", "1", "-", string(rune(r.IntN(128))))
	}
	return s
}

func someKey(r *rand.Rand) string {
	return pick(r, "a", "b", "c", "d", "e/f", "g-1", "h.i", "J_", "0", strings.Repeat("k", 64))
}

// someNode is right, if nothing is made wrong in it.
func someNode(r *rand.Rand, around int, good bool) api.Node {
	n := api.Node{Kind: pick(r, api.NodeMap, api.NodeText, api.NodeList)}
	if around == 0 {
		n.Kind = api.NodeMap
	}
	most := 4
	if !good && r.IntN(200) == 0 {
		n.Kind, most = pick(r, api.NodeCount, 255, n.Kind), 300
	}
	odd := func() bool { return !good && r.IntN(200) == 0 }
	if n.Kind == api.NodeMap || odd() {
		for range r.IntN(most) {
			k := someKey(r)
			if !slices.ContainsFunc(n.Keys, func(o api.Keyed) bool { return o.Key == k }) && around < 8 || odd() {
				n.Keys = append(n.Keys, key(k, someNode(r, around+1, good)))
			}
		}
	}
	texts := func() string {
		s := someText(r)
		for good && !right(textOf(s), 1) {
			s = someText(r)
		}
		return s
	}
	if n.Kind == api.NodeText || odd() {
		n.Text = texts()
	}
	if n.Kind == api.NodeList || odd() {
		for range r.IntN(most) {
			n.List = append(n.List, texts())
		}
	}
	return n
}

// someConf is lines, mostly such.
func someConf(r *rand.Rand) string {
	var l []string
	indent := 0
	for range r.IntN(12) {
		value := pick(r, "", "", "", " ", " # c", "#", " x", " x # y", " \"a\\n\" ", " []", " [a, \"b\" ,c]", " "+someText(r), " \""+someText(r)+"\"", " ["+someText(r)+"]", someText(r))
		l = append(l, strings.Repeat(" ", indent)+someKey(r)+":"+value)
		switch r.IntN(9) {
		case 0, 1:
			indent = max(0, indent-1-r.IntN(3))
		case 2, 3, 4:
			if strings.TrimLeft(value, " ") == "" {
				indent += 1 + r.IntN(3)
			}
		case 5:
			l = append(l, pick(r, "", "   ", "# x", "  #\t\x00", "\t", "\r", "x", ":"))
		}
	}
	s := strings.Join(l, "\n")
	for r.IntN(4) == 0 && s != "" {
		at := r.IntN(len(s))
		s = pick(r, s[:at]+s[at+1:], s[:at]+pick(r, " ", "#", ":", "\n", "\"", "]", "\\", "\x7f")+s[at:])
	}
	return s
}
