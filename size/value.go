package size

import "penstock/api"

// Values are counted as value.Write has them, also those that are too long for a message of their own.

func (c *counter) pairs(num int, l []api.Pair) {
	for _, p := range l {
		c.always(num, func(c *counter) { c.pair(p) })
	}
}

func (c *counter) pair(p api.Pair) {
	c.text(1, p.Key)
	c.some(2, func(c *counter) { c.value(p.Value) })
}

// value has a field, even if it is zero, unless it is of KindNone.
func (c *counter) value(v api.Value) {
	switch v.Kind {
	case api.KindText:
		c.bytes(1, len(v.S))
	case api.KindBool:
		c.field(2, api.WireVarint, 1) // true and false are of one length
	case api.KindInt:
		c.field(3, api.WireVarint, uint64(v.N))
	case api.KindFloat:
		c.field(4, api.WireEight, 0)
	case api.KindList:
		c.always(5, func(c *counter) { c.list(v.List) })
	case api.KindMap:
		c.always(6, func(c *counter) { c.pairs(1, v.Pairs) })
	case api.KindBytes:
		c.bytes(7, len(v.S))
	}
}

func (c *counter) list(l []api.Value) {
	for _, v := range l {
		c.always(1, func(c *counter) { c.value(v) })
	}
}
