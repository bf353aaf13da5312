package export

import (
	"iter"

	"penstock/api"
	"penstock/pdata"
	"penstock/size"
)

// mostMessage is how many bytes a message may have, so that a queue takes it with its digit, and its own sign ahead.
const mostMessage = api.MaxBytes - 2

// parts yields d as it is put, message by message, and whether the part is short enough for one; if it is not, it is one item.
func parts(d api.Data) iter.Seq2[api.Data, bool] {
	return func(yield func(api.Data, bool) bool) {
		left := d // so that it may be gone through once more
		for pdata.Items(left) > 0 {
			n := fitting(left)
			part, others := split(left, max(n, 1))
			if !yield(part, n > 0) {
				return
			}
			left = others
		}
	}
}

// fitting is size.First of d. That looks at all that it is given, so it is given few items at first, and more as long as they fit.
func fitting(d api.Data) int {
	for some := 1; ; some *= 2 {
		few, _ := split(d, some)
		n, _ := size.First(few, mostMessage) // d is right
		if n < some {
			return n
		}
	}
}

// split is pdata.Split of what is right; the halves are only looked at, so that nothing needs to be copied.
func split(d api.Data, n int) (api.Data, api.Data) {
	first, others := api.Data{Signal: d.Signal}, api.Data{Signal: d.Signal}
	for _, g := range d.Groups {
		some := min(n, len(g.Items))
		n -= some
		first.Groups = withSome(first.Groups, g, g.Items[:some])
		others.Groups = withSome(others.Groups, g, g.Items[some:])
	}
	return first, others
}

// withSome has a group of some items of g behind l, if there are any.
func withSome(l []api.Group, g api.Group, items []api.Item) []api.Group {
	if len(items) == 0 {
		return l
	}
	g.Items = items
	return append(l, g)
}
