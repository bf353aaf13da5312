package size

import "penstock/api"

// Values are counted as value.Write has them, also those that are too long for a message of their own.

func (c *counter) pair(p api.Pair) {
	if p.Key != "" {
		c.Bytes(1, p.Key)
	}
	if p.Value.Kind != api.KindNone {
		c.Value(2, p.Value)
	}
}

// value has a field, even if it is zero, unless it is of KindNone.
func (c *counter) value(v api.Value) {
	switch v.Kind {
	case api.KindText:
		c.Bytes(1, v.S)
	case api.KindBool:
		c.Number(2, api.WireVarint, 1) // true and false are of one length
	case api.KindInt:
		c.Number(3, api.WireVarint, uint64(v.N))
	case api.KindFloat:
		c.Number(4, api.WireEight, 0)
	case api.KindList:
		c.always(5, func(c *counter) { c.list(v.List) })
	case api.KindMap:
		c.always(6, func(c *counter) { c.pairs(v.Pairs) })
	case api.KindBytes:
		c.Bytes(7, v.S)
	}
}

func (c *counter) list(l []api.Value) {
	for _, v := range l {
		c.Value(1, v)
	}
}

func (c *counter) pairs(l []api.Pair) {
	for _, p := range l {
		c.Pair(1, p)
	}
}
