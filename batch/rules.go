package batch

import (
	"strconv"

	"penstock/api"
	"penstock/conf"
	"penstock/fail"
	"penstock/pdata"
)

// The rules that hold, where a node says none.
const (
	someSize = 8
	someMax  = api.MaxItems
	someWait = 200
)

// read is the rules of a right node.
func read(n api.Node) api.BatchRules {
	r := api.BatchRules{Size: someSize, Max: someMax, Wait: someWait}
	for _, k := range n.Keys {
		switch k.Key {
		case "kind": // it is no matter here what that is
		case "size":
			r.Size = count(k.Node)
		case "max":
			r.Max = count(k.Node)
		case "wait":
			r.Wait = wait(k.Node)
		default:
			fail.On(api.ErrConf)
		}
	}
	fail.Unless(isRules(r), api.ErrRange) // behind all that is ErrConf
	return r
}

func count(n api.Node) int {
	const digits = 4
	s := text(n)
	number, fault := strconv.ParseUint(s, 10, 64)
	fail.Unless(fault == nil && len(s) <= digits, api.ErrConf)
	return int(number)
}

func wait(n api.Node) uint64 {
	millis, why := conf.Millis(text(n))
	fail.On(why)
	return millis
}

func text(n api.Node) string {
	fail.Unless(n.Kind == api.NodeText, api.ErrConf)
	return n.Text
}

func isRules(r api.BatchRules) bool {
	return r.Size >= 1 && r.Size <= r.Max && r.Max <= api.MaxItems
}

// checked is b with lists of its own; it panics with the error, if r or b is not right.
func checked(b api.Batch, r api.BatchRules) api.Batch {
	fail.Unless(isRules(r), api.ErrRange)
	if len(b.Held.Groups) == 0 {
		b.Held.Groups = nil
		return b
	}
	tidy, why := pdata.Tidy(b.Held)
	fail.Unless(why == api.OK && pdata.Same(tidy, b.Held) && pdata.Items(tidy) < r.Size, api.ErrState)
	b.Held = tidy
	return b
}
