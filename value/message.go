package value

import (
	"math"

	"penstock/api"
	"penstock/fail"
	"penstock/wire"
)

// The fields of the messages that are no values: of a list's and a map's, of a pair's.
const (
	partNum  = 1
	keyNum   = 1
	valueNum = 2
)

// Write is v's message.
func Write(v api.Value) (string, api.Errno) {
	s := ""
	why := fail.Caught(func() {
		checkValue(v, 0)
		s = written(v)
	})
	return s, why
}

// Read is the value of which the message s says.
func Read(s string) (api.Value, api.Errno) {
	v := api.Value{}
	why := fail.Caught(func() { v = read(s, 0) })
	return v, why
}

// WritePair is p's message.
func WritePair(p api.Pair) (string, api.Errno) {
	s := ""
	why := fail.Caught(func() {
		checkPair(p, 0)
		s = writtenPair(p)
	})
	return s, why
}

// ReadPair is the pair of which the message s says.
func ReadPair(s string) (api.Pair, api.Errno) {
	p := api.Pair{}
	why := fail.Caught(func() { p = readPair(s, 0) })
	return p, why
}

// places is which field of a value's message is of which kind.
func places() map[api.Kind]api.Field {
	return map[api.Kind]api.Field{
		api.KindText:  {Num: 1, Wire: api.WireBytes},
		api.KindBool:  {Num: 2, Wire: api.WireVarint},
		api.KindInt:   {Num: 3, Wire: api.WireVarint},
		api.KindFloat: {Num: 4, Wire: api.WireEight},
		api.KindList:  {Num: 5, Wire: api.WireBytes},
		api.KindMap:   {Num: 6, Wire: api.WireBytes},
		api.KindBytes: {Num: 7, Wire: api.WireBytes},
	}
}

func written(v api.Value) string {
	f, is := places()[v.Kind]
	if !is { // KindNone is told by no field at all
		return ""
	}
	switch v.Kind {
	case api.KindText, api.KindBytes:
		f.S = v.S
	case api.KindBool:
		if v.B {
			f.N = 1
		}
	case api.KindInt:
		f.N = uint64(v.N)
	case api.KindFloat:
		f.N = math.Float64bits(v.F)
	case api.KindList:
		f.S = writtenParts(len(v.List), func(i int) string { return written(v.List[i]) })
	case api.KindMap:
		f.S = writtenParts(len(v.Pairs), func(i int) string { return writtenPair(v.Pairs[i]) })
	}
	return message(f)
}

func writtenPair(p api.Pair) string {
	var l []api.Field
	if p.Key != "" {
		l = append(l, api.Field{Num: keyNum, Wire: api.WireBytes, S: p.Key})
	}
	if p.Value.Kind != api.KindNone {
		l = append(l, api.Field{Num: valueNum, Wire: api.WireBytes, S: written(p.Value)})
	}
	return message(l...)
}

// writtenParts is handed how many parts there are, and what is the message of each.
func writtenParts(n int, part func(int) string) string {
	var l []api.Field
	for i := range n {
		l = append(l, api.Field{Num: partNum, Wire: api.WireBytes, S: part(i)})
	}
	return message(l...)
}

// message panics, as soon as one of the messages is too long: so do all around it.
func message(l ...api.Field) string {
	s, why := wire.Write(l)
	fail.On(why)
	return s
}

// read is handed how many lists and maps are around the value.
func read(s string, around int) api.Value {
	kind, f := told(fields(s))
	v := api.Value{Kind: kind}
	switch kind {
	case api.KindText:
		checkKey(f.S) // a text and a key are right alike
		v.S = f.S
	case api.KindBool:
		v.B = f.N != 0
	case api.KindInt:
		v.N = int64(f.N)
	case api.KindFloat:
		v.F = math.Float64frombits(f.N)
	case api.KindList:
		for _, x := range parts(f.S, around) {
			v.List = append(v.List, read(x.S, around+1))
		}
	case api.KindMap:
		v.Pairs = readPairs(parts(f.S, around), around+1)
	case api.KindBytes:
		checkLong(f.S)
		v.S = f.S
	}
	return v
}

// told is the last field of l that is a kind's, and which one's.
func told(l []api.Field) (api.Kind, api.Field) {
	known := places()
	for i := len(l) - 1; i >= 0; i-- {
		for kind, f := range known { // no two kinds have one field: whichever comes first, the answer is one
			if l[i].Num == f.Num && l[i].Wire == f.Wire {
				return kind, l[i]
			}
		}
	}
	return api.KindNone, api.Field{}
}

func readPair(s string, around int) api.Pair {
	l := fields(s)
	key, _ := wire.Last(l, keyNum, api.WireBytes)
	checkKey(key.S)
	v, _ := wire.Last(l, valueNum, api.WireBytes)
	return api.Pair{Key: key.S, Value: read(v.S, around)}
}

// readPairs keeps the last value of a key at the first one's place.
func readPairs(l []api.Field, around int) []api.Pair {
	var out []api.Pair
	place := map[string]int{}
	for _, f := range l {
		p := readPair(f.S, around)
		i, is := place[p.Key]
		if is {
			out[i] = p
			continue
		}
		place[p.Key] = len(out)
		out = append(out, p)
	}
	return out
}

// parts is the parts of a list's or a map's message, around which there are so many lists and maps.
func parts(s string, around int) []api.Field {
	l := wire.All(fields(s), partNum, api.WireBytes)
	checkMany(len(l))
	checkDepth(around)
	return l
}

func fields(s string) []api.Field {
	l, why := wire.Read(s)
	fail.On(why)
	return l
}
