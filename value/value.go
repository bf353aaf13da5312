// Package value has attributes and their values: see ../../shared/DOC.md and doc/02-value.md.
package value

import (
	"math"

	"penstock/api"
)

// Same tells whether a and b are one, field by field, floats by their bits.
func Same(a, b api.Value) bool {
	if a.Kind != b.Kind || a.S != b.S || a.B != b.B || a.N != b.N {
		return false
	}
	if math.Float64bits(a.F) != math.Float64bits(b.F) || len(a.List) != len(b.List) {
		return false
	}
	for i, x := range a.List {
		if !Same(x, b.List[i]) {
			return false
		}
	}
	return SamePairs(a.Pairs, b.Pairs)
}

// SamePairs tells whether a and b have the same pairs in the same order.
func SamePairs(a, b []api.Pair) bool {
	if len(a) != len(b) {
		return false
	}
	for i, p := range a {
		if p.Key != b[i].Key || !Same(p.Value, b[i].Value) {
			return false
		}
	}
	return true
}

// Get is the first value of that key, if there is one.
func Get(l []api.Pair, key string) (api.Value, bool) {
	for _, p := range l {
		if p.Key == key {
			return copied(p.Value), true
		}
	}
	return api.Value{}, false
}

// Put is l in which the first pair of the key has v; the pair is behind all, if there was none.
func Put(l []api.Pair, key string, v api.Value) []api.Pair {
	out := copiedPairs(l)
	for i := range out {
		if out[i].Key == key {
			out[i].Value = copied(v)
			return out
		}
	}
	return append(out, api.Pair{Key: key, Value: copied(v)})
}

// Drop is l without all pairs of the key.
func Drop(l []api.Pair, key string) []api.Pair {
	var out []api.Pair
	for _, p := range l {
		if p.Key != key {
			out = append(out, copiedPair(p))
		}
	}
	return out
}

// Hash is FNV-1a of s, of 64 bits.
func Hash(s string) uint64 {
	h := uint64(14695981039346656037)
	for i := range len(s) {
		h = (h ^ uint64(s[i])) * 1099511628211
	}
	return h
}

// copied has lists of its own, however deep: an answer shares none with what was handed in.
func copied(v api.Value) api.Value {
	list := v.List
	v.List = nil
	for _, x := range list {
		v.List = append(v.List, copied(x))
	}
	v.Pairs = copiedPairs(v.Pairs)
	return v
}

func copiedPairs(l []api.Pair) []api.Pair {
	var out []api.Pair
	for _, p := range l {
		out = append(out, copiedPair(p))
	}
	return out
}

func copiedPair(p api.Pair) api.Pair {
	return api.Pair{Key: p.Key, Value: copied(p.Value)}
}
