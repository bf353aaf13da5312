package conf

import (
	"slices"

	"penstock/api"
)

// isNode tells whether n is right with so many maps around it.
func isNode(n api.Node, around int) bool {
	switch n.Kind {
	case api.NodeMap:
		return n.Text == "" && len(n.List) == 0 && areKeys(n.Keys, around)
	case api.NodeText:
		return isText(n.Text) && len(n.List)+len(n.Keys) == 0
	case api.NodeList:
		return n.Text == "" && areTexts(n.List) && len(n.Keys) == 0
	}
	return false
}

func areTexts(l []string) bool {
	isNone := func(s string) bool { return !isText(s) }
	return len(l) <= api.MaxParts && !slices.ContainsFunc(l, isNone)
}

// areKeys tells whether l may be that of a map with so many maps around it.
func areKeys(l []api.Keyed, around int) bool {
	if around > api.MaxDepth || len(l) > api.MaxParts {
		return false
	}
	for i, k := range l {
		if !isKey(k.Key) || find(l[:i], k.Key) >= 0 || !isNode(k.Node, around+1) {
			return false
		}
	}
	return true
}
