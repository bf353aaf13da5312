package attrs

import (
	"math"
	"strconv"
	"strings"

	"penstock/api"
	"penstock/fail"
)

const mostInt = 1 << 62

// read is the actions of a right node.
func read(n api.Node) api.Attrs {
	var out api.Attrs
	for _, k := range n.Keys {
		switch k.Key {
		case "kind": // it is no matter here what that is
		case "on":
			out.Resource = isResource(k.Node)
		case "actions":
			out.Actions = actions(k.Node)
		default:
			fail.On(api.ErrConf)
		}
	}
	for _, a := range out.Actions { // behind all that is ErrConf
		fail.On(checkPair(a))
	}
	return out
}

func isResource(n api.Node) bool {
	fail.Unless(n.Kind == api.NodeText && (n.Text == "resource" || n.Text == "item"), api.ErrConf)
	return n.Text == "resource"
}

func actions(n api.Node) []api.Action {
	fail.Unless(n.Kind == api.NodeList, api.ErrConf)
	var out []api.Action
	for _, s := range n.List {
		out = append(out, action(s))
	}
	return out
}

// action is that of which s is the text. What it says is held against s as a whole, since each action has one text.
func action(s string) api.Action {
	word, rest, _ := strings.Cut(s, " ")
	key, rest, _ := strings.Cut(rest, " ")
	a := api.Action{Kind: called(word), Key: key, Value: meant(rest)}
	fail.Unless(written(a) == s, api.ErrConf)
	return a
}

// called is the kind of that word.
func called(word string) api.ActionKind {
	for number, k := range kinds() { // no two have one word: whichever comes first, the answer is one
		if k.word == word {
			return number
		}
	}
	return api.ActionNone
}

// meant is the value that s says, if it says one.
func meant(s string) api.Value {
	kind, what, _ := strings.Cut(s, ":")
	switch kind {
	case "text":
		return api.Value{Kind: api.KindText, S: what}
	case "int":
		n, _ := strconv.ParseInt(what, 10, 64)
		return api.Value{Kind: api.KindInt, N: n}
	case "bool":
		return api.Value{Kind: api.KindBool, B: what == "true"}
	case "bits":
		n, _ := strconv.ParseUint(what, 16, 64)
		return api.Value{Kind: api.KindFloat, F: math.Float64frombits(n)}
	}
	return api.Value{}
}

// written is a's text; it panics with ErrConf, if there is none. What is in the key and in a text is no matter here, but for spaces.
func written(a api.Action) string {
	k, is := kinds()[a.Kind]
	fail.Unless(is && a.Key != "" && !strings.Contains(a.Key, " "), api.ErrConf)
	if !k.gives {
		return k.word + " " + a.Key
	}
	return k.word + " " + a.Key + " " + writtenValue(a.Value)
}

func writtenValue(v api.Value) string {
	switch v.Kind {
	case api.KindText:
		return "text:" + v.S
	case api.KindInt:
		fail.Unless(-mostInt <= v.N && v.N <= mostInt, api.ErrConf)
		return "int:" + strconv.FormatInt(v.N, 10)
	case api.KindBool:
		return "bool:" + strconv.FormatBool(v.B)
	case api.KindFloat:
		return "bits:" + digits(math.Float64bits(v.F))
	}
	panic(api.ErrConf)
}

// digits are the sixteen hexadecimal ones of n.
func digits(n uint64) string {
	s := strconv.FormatUint(n, 16)
	return strings.Repeat("0", 16-len(s)) + s
}
