package attrs

import (
	"slices"

	"penstock/api"
	"penstock/fail"
	"penstock/value"
)

// kind is what actions of a kind are: the word in their text, whether they have a value, and what they do with pairs, which are theirs to change.
type kind struct {
	word  string
	gives bool
	do    func([]api.Pair, api.Action) []api.Pair
}

func kinds() map[api.ActionKind]kind {
	return map[api.ActionKind]kind{
		api.ActionInsert: {word: "insert", gives: true, do: insert},
		api.ActionUpdate: {word: "update", gives: true, do: update},
		api.ActionUpsert: {word: "upsert", gives: true, do: upsert},
		api.ActionDelete: {word: "delete", do: remove},
		api.ActionHash:   {word: "hash", do: hash},
	}
}

func checkActions(l []api.Action) {
	fail.Unless(len(l) <= api.MaxParts, api.ErrConf)
	for _, a := range l {
		checkAction(a)
	}
}

// checkAction needs no look at the fields of a value that is none: one that is right has zeros there.
func checkAction(a api.Action) {
	k, is := kinds()[a.Kind]
	gives := a.Value.Kind != api.KindNone
	fail.Unless(is && gives == k.gives && checkPair(a) == api.OK, api.ErrConf)
}

// checkPair tells why the key or the value is not right.
func checkPair(a api.Action) api.Errno {
	return value.CheckPairs([]api.Pair{pair(a)})
}

func pair(a api.Action) api.Pair {
	return api.Pair{Key: a.Key, Value: a.Value}
}

// doing is what does all actions with pairs that are its to change; it panics with ErrMany, if they are too many behind all.
func doing(a api.Attrs) func([]api.Pair) []api.Pair {
	known := kinds()
	return func(l []api.Pair) []api.Pair {
		for _, x := range a.Actions {
			l = known[x.Kind].do(l, x)
		}
		fail.Unless(len(l) <= api.MaxParts, api.ErrMany)
		return l
	}
}

func insert(l []api.Pair, a api.Action) []api.Pair {
	if find(l, a.Key) < 0 {
		l = append(l, own(pair(a))...)
	}
	return l
}

func update(l []api.Pair, a api.Action) []api.Pair {
	if at := find(l, a.Key); at >= 0 {
		l[at] = own(pair(a))[0]
	}
	return l
}

func upsert(l []api.Pair, a api.Action) []api.Pair {
	return insert(update(l, a), a) // behind the one there is nothing to do for the other
}

func remove(l []api.Pair, a api.Action) []api.Pair {
	return slices.DeleteFunc(l, func(p api.Pair) bool { return p.Key == a.Key })
}

func hash(l []api.Pair, a api.Action) []api.Pair {
	if at := find(l, a.Key); at >= 0 {
		s, _ := value.Write(l[at].Value) // of a value that is too long for a message it is nothing
		l[at].Value = api.Value{Kind: api.KindText, S: digits(value.Hash(s))}
	}
	return l
}

func find(l []api.Pair, key string) int {
	return slices.IndexFunc(l, func(p api.Pair) bool { return p.Key == key })
}

// own is l with lists of its own, since what value.Put answers has.
func own(l ...api.Pair) []api.Pair {
	var out []api.Pair
	for _, p := range l {
		out = append(out, value.Put(nil, p.Key, p.Value)...)
	}
	return out
}
