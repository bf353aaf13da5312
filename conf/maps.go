package conf

import (
	"slices"

	"penstock/api"
	"penstock/fail"
)

// level is a map that is being read, and how far its own lines are indented.
type level struct {
	indent int
	keys   []api.Keyed
}

// waits tells whether the last key has no value, so that its map may begin.
func (l level) waits() bool {
	size := len(l.keys)
	return size > 0 && l.keys[size-1].Node.Kind == api.NodeMap
}

// maps are those that are being read, each the last key's of the one ahead of it.
type maps []level

func (m maps) last() *level {
	return &m[len(m)-1]
}

func (m *maps) begin(indent int) {
	*m = append(*m, level{indent: indent})
}

func (m *maps) end() {
	keys := m.last().keys
	*m = (*m)[:len(*m)-1]
	l := m.last().keys
	l[len(l)-1].Node.Keys = keys
}

// all ends all maps, and is the one that is around them.
func (m *maps) all() api.Node {
	for len(*m) > 1 {
		m.end()
	}
	return api.Node{Keys: m.last().keys}
}

// reach begins and ends maps, till the last one is that whose lines are so indented.
func (m *maps) reach(indent int) {
	if last := m.last(); last.waits() && indent > last.indent {
		m.begin(indent)
	}
	for indent < m.last().indent {
		m.end()
	}
	fail.Unless(indent == m.last().indent, api.ErrConf)
}

func (m *maps) add(l line) {
	m.reach(l.indent)
	fail.Unless(l.node.Kind != api.NodeMap || len(*m) <= api.MaxDepth, api.ErrDepth)
	fail.Unless(!isLong(l.node.Text) && !slices.ContainsFunc(l.node.List, isLong), api.ErrLong)
	fail.Unless(len(l.node.List) <= api.MaxParts, api.ErrMany)
	last := m.last()
	fail.Unless(find(last.keys, l.key) < 0, api.ErrConf)
	fail.Unless(len(last.keys) < api.MaxParts, api.ErrMany)
	last.keys = append(last.keys, api.Keyed{Key: l.key, Node: l.node})
}
