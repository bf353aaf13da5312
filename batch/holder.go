package batch

import (
	"iter"

	"penstock/api"
	"penstock/fail"
	"penstock/pdata"
)

// holder is a batch that is being changed, its lists being its own, and what went of it.
type holder struct {
	api.Batch
	most int
	gone []api.Data
}

// change does what is handed in with b; it answers the error, if r or b is not right, or that panics with one.
func change(b api.Batch, r api.BatchRules, do func(*holder)) (api.Batch, []api.Data, api.Errno) {
	var h holder
	why := fail.Caught(func() {
		x := holder{Batch: checked(b, r), most: r.Max}
		do(&x)
		h = x
	})
	return h.Batch, h.gone, why
}

func (h *holder) holds() bool {
	return len(h.Held.Groups) > 0
}

// add puts d, which is tidy, to what is held; that goes first, if both are too many.
func (h *holder) add(d api.Data, now uint64) {
	all, since := d, now
	if h.holds() {
		both, why := pdata.Merge(h.Held, d)
		switch why {
		case api.OK:
			all, since = both, h.Since
		case api.ErrMany:
			h.send(1)
		default:
			fail.On(why)
		}
	}
	h.Held, h.Since = all, since
}

// send lets go what is held, as long as that are so many items at least.
func (h *holder) send(least int) {
	if h.holds() {
		for d := range parts(h.cut(least), h.most) {
			h.gone = append(h.gone, d)
		}
	}
	if !h.holds() {
		h.Batch = api.Batch{}
	}
}

// cut takes away what goes: as many parts as are full, and what is left then, if that are so many items at least.
func (h *holder) cut(least int) api.Data {
	n := pdata.Items(h.Held)
	if last := n % h.most; last < least {
		n -= last
	}
	going, staying, why := pdata.Split(h.Held, n)
	fail.On(why)
	h.Held = staying
	return going
}

// parts yields d, so many items at a time. It goes by halves, since a split looks at all that is split.
func parts(d api.Data, most int) iter.Seq[api.Data] {
	return func(yield func(api.Data) bool) {
		n := pdata.Items(d)
		switch {
		case n == 0:
		case n <= most:
			yield(d)
		default:
			first, others, why := pdata.Split(d, (n+most-1)/most/2*most)
			fail.On(why)
			for _, half := range []api.Data{first, others} {
				for part := range parts(half, most) {
					if !yield(part) {
						return
					}
				}
			}
		}
	}
}
