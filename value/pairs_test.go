package value_test

import (
	"hash/fnv"
	"math/rand/v2"
	"runtime"
	"testing"

	"penstock/api"
	"penstock/value"
)

func checkPairs(t *testing.T, name string, got, want []api.Pair) {
	t.Helper()
	if !samePairs(got, want) {
		t.Errorf("%s: %v, want %v", name, got, want)
	}
}

func TestP23Get(t *testing.T) {
	l := []api.Pair{pair("a", whole(1)), pair("", text("none")), pair("b", list(whole(2))), pair("a", whole(3)), pair("none", api.Value{})}
	for key, want := range map[string]api.Value{"a": whole(1), "": text("none"), "b": list(whole(2)), "none": {}} {
		if v, is := value.Get(l, key); !same(v, want) || !is {
			t.Errorf("Get of %q: %v, %v", key, v, is)
		}
	}
	for _, key := range []string{"A", "c", "aa", "non"} {
		if v, is := value.Get(l, key); !same(v, api.Value{}) || is {
			t.Errorf("Get of %q, which is not there: %v, %v", key, v, is)
		}
	}
	if v, is := value.Get(nil, ""); !same(v, api.Value{}) || is {
		t.Errorf("Get of no pairs: %v, %v", v, is)
	}
}

func TestP23Put(t *testing.T) {
	a, b, c := pair("a", whole(1)), pair("b", list(whole(2))), pair("c", text("c"))
	other := table(pair("x", part(minus)))
	for name, x := range map[string]struct {
		l, want []api.Pair
		key     string
	}{
		"none":                             {nil, []api.Pair{pair("a", other)}, "a"},
		"a new key":                        {[]api.Pair{a, b}, []api.Pair{a, b, pair("c", other)}, "c"},
		"the empty key":                    {[]api.Pair{a, b}, []api.Pair{a, b, pair("", other)}, ""},
		"the first key":                    {[]api.Pair{a, b, c}, []api.Pair{pair("a", other), b, c}, "a"},
		"a key between":                    {[]api.Pair{a, b, c}, []api.Pair{a, pair("b", other), c}, "b"},
		"the last key":                     {[]api.Pair{a, b, c}, []api.Pair{a, b, pair("c", other)}, "c"},
		"a key twice":                      {[]api.Pair{b, a, c, a}, []api.Pair{b, pair("a", other), c, a}, "a"},
		"a key, whatever":                  {[]api.Pair{a}, []api.Pair{a, pair("A", other)}, "A"},
		"a key that is there with nothing": {[]api.Pair{pair("a", api.Value{}), b}, []api.Pair{pair("a", other), b}, "a"},
	} {
		checkPairs(t, "Put of "+name, value.Put(x.l, x.key, other), x.want)
	}
	checkPairs(t, "Put of nothing", value.Put([]api.Pair{a, b}, "a", api.Value{}), []api.Pair{pair("a", api.Value{}), b})
}

func TestP23Drop(t *testing.T) {
	a, b, c := pair("a", whole(1)), pair("b", list(whole(2))), pair("", text("c"))
	for name, x := range map[string]struct {
		l, want []api.Pair
		key     string
	}{
		"none":          {nil, nil, "a"},
		"no such key":   {[]api.Pair{a, b, a}, []api.Pair{a, b, a}, "c"},
		"the first key": {[]api.Pair{a, b, c}, []api.Pair{b, c}, "a"},
		"a key between": {[]api.Pair{a, b, c}, []api.Pair{a, c}, "b"},
		"the empty key": {[]api.Pair{a, b, c}, []api.Pair{a, b}, ""},
		"a key twice":   {[]api.Pair{a, b, a, c, a, a}, []api.Pair{b, c}, "a"},
		"all":           {[]api.Pair{a, a}, nil, "a"},
	} {
		checkPairs(t, "Drop of "+name, value.Drop(x.l, x.key), x.want)
	}
}

func TestP23Hash(t *testing.T) {
	for s, want := range map[string]uint64{"": 14695981039346656037, "a": 12638187200555641996, "foobar": 0x85944171f73967e8, "\x00": 0xaf63bd4c8601b7df} {
		if h := value.Hash(s); h != want {
			t.Errorf("Hash(%q) = %d, want %d", s, h, want)
		}
	}
	r := rand.New(rand.NewPCG(2, 3))
	for range 200 {
		b := make([]byte, r.IntN(40))
		for i := range b {
			b[i] = byte(r.Uint32())
		}
		h := fnv.New64a()
		h.Write(b)
		if got := value.Hash(string(b)); got != h.Sum64() {
			t.Errorf("Hash(%x) = %d, want %d", b, got, h.Sum64())
		}
	}
}

// shared is pairs of which several have one memory, with room behind.
func shared() []api.Pair {
	inner := append(make([]api.Value, 0, 8), whole(1), list(whole(2)))
	pairs := append(make([]api.Pair, 0, 8), pair("x", list(inner...)), pair("y", whole(3)))
	l := make([]api.Pair, 0, 16)
	return append(l, pair("a", list(inner...)), pair("b", table(pairs...)), pair("c", list(inner...)), pair("d", table(pairs...)), pair("e", list(list(inner...), table(pairs...), list(inner...))))
}

func TestP24NewMemory(t *testing.T) {
	v := list(list(whole(1)), table(pair("a", list(whole(2)))))
	for name, do := range map[string]func([]api.Pair) []api.Pair{
		"Put of a new key": func(l []api.Pair) []api.Pair { return value.Put(l, "new", v) },
		"Put of a key":     func(l []api.Pair) []api.Pair { return value.Put(l, "b", v) },
		"Drop of a key":    func(l []api.Pair) []api.Pair { return value.Drop(l, "b") },
		"Drop of no key":   func(l []api.Pair) []api.Pair { return value.Drop(l, "new") },
		"Get of a list": func(l []api.Pair) []api.Pair {
			x, _ := value.Get(l, "e")
			return []api.Pair{pair("e", x)}
		},
		"Get of a map": func(l []api.Pair) []api.Pair {
			x, _ := value.Get(l, "d")
			return []api.Pair{pair("d", x)}
		},
	} {
		l := shared()
		before, vBefore := twins(l[:cap(l)]), twin(v)
		first, second := do(l), do(l)
		want := twins(first)
		checkPairs(t, name+": what was handed in is changed", l[:cap(l)], before)
		checkApart(t, name, append(cellsOfPairs(l), cells(v)...), append(cellsOfPairs(first), cellsOfPairs(second)...))
		spoilPairs(first)
		checkPairs(t, name+": the answer and what was handed in share memory", l[:cap(l)], before)
		checkPairs(t, name+": two answers share memory", second, want)
		if !same(v, vBefore) {
			t.Errorf("%s: the value that was handed in is changed: %v", name, v)
		}
		spoilPairs(l)
		checkPairs(t, name+": what was handed in is kept", second, want)
	}
	kept := value.Put(nil, "a", v)
	want := twins(kept)
	spoil(v)
	checkPairs(t, "Put: the value that was handed in is kept", kept, want)
}

func TestP24ReadIsNewMemory(t *testing.T) {
	v := list(list(whole(1), whole(2)), table(pair("a", list(whole(2), list())), pair("b", table(pair("c", whole(1))))), list(whole(1), whole(2)))
	s, _ := value.Write(v)
	first, _ := value.Read(s)
	second, _ := value.Read(s)
	checkApart(t, "Read", cells(v), append(cells(first), cells(second)...))
	spoil(first)
	if third, _ := value.Read(s); !same(second, v) || !same(third, v) {
		t.Error("two answers of Read share memory:", second, third)
	}
	p, _ := value.WritePair(pair("k", v))
	one, _ := value.ReadPair(p)
	two, _ := value.ReadPair(p)
	checkApart(t, "ReadPair", cells(v), append(cells(one.Value), cells(two.Value)...))
	spoil(one.Value)
	if !same(two.Value, v) {
		t.Error("two answers of ReadPair share memory:", two)
	}
}

func TestP24NothingIsChanged(t *testing.T) {
	r := rand.New(rand.NewPCG(2, 4))
	for range 2000 {
		v, l := anything(r, 3), []api.Pair{pair("a", anything(r, 2)), pair("b", anything(r, 2))}
		vBefore, lBefore := twin(v), twins(l)
		value.Check(v)
		value.CheckPairs(l)
		value.Same(v, l[0].Value)
		value.SamePairs(l, l)
		value.Compare(v, l[1].Value)
		value.Write(v)
		value.WritePair(l[0])
		value.Get(l, "b")
		value.Put(l, "b", v)
		value.Drop(l, "a")
		if !same(v, vBefore) || !samePairs(l, lBefore) {
			t.Fatal("what was handed in is changed:", v, l)
		}
	}
}

func TestP27Attributes(t *testing.T) {
	r := rand.New(rand.NewPCG(2, 7))
	keys := []string{"", "a", "b", "é", "long key", "z", "other"}
	for range 3000 {
		l, key, v := somePairs(r, 2), keys[r.IntN(len(keys))], some(r, 2)
		put, gone := value.Put(l, key, v), value.Drop(l, key)
		if got, is := value.Get(put, key); !same(got, v) || !is {
			t.Errorf("Get of what was put: %v, %v, want %v", got, is, v)
		}
		if got, is := value.Get(gone, key); !same(got, api.Value{}) || is {
			t.Errorf("Get of what was dropped: %v, %v", got, is)
		}
		for _, k := range keys {
			want, wantIs := value.Get(l, k)
			a, isA := value.Get(put, k)
			b, isB := value.Get(gone, k)
			if k != key && (!same(a, want) || isA != wantIs || !same(b, want) || isB != wantIs) {
				t.Errorf("Put or Drop of %q changed %q: %v, %v, want %v", key, k, a, b, want)
			}
		}
		checkPairs(t, "Drop of Put", value.Drop(put, key), gone)
		checkErr(t, "CheckPairs of Put", value.CheckPairs(put), api.OK)
	}
}

// deep is a list around a list, a great many times.
func deep() api.Value { return lists(whole(1), 1<<16-10) }

func TestP1AnyValues(t *testing.T) {
	r := rand.New(rand.NewPCG(2, 1))
	for range 3000 {
		v := anything(r, 3)
		why := value.Check(v)
		s, whyWrite := value.Write(v)
		if why != api.OK && (whyWrite != why || s != "") {
			t.Errorf("Write of %v: error %d, Check says %d", v, whyWrite, why)
		}
		if !value.Same(v, twin(v)) {
			t.Errorf("Same of %v and itself", v)
		}
		value.Compare(v, anything(r, 1))
	}
	for range 20000 {
		b := make([]byte, r.IntN(12))
		for i := range b {
			b[i] = "\x00\x01\x02\x03\x04\x08\x0a\x10\x12\x18\x21\x2a\x32\x3a\x80\xff"[r.IntN(16)]
		}
		if v, why := value.Read(string(b)); why != api.OK && !same(v, api.Value{}) {
			t.Errorf("Read of %x: %v beside error %d", b, v, why)
		}
		if p, why := value.ReadPair(string(b)); why != api.OK && !samePairs([]api.Pair{p}, []api.Pair{{}}) {
			t.Errorf("ReadPair of %x: %v beside error %d", b, p, why)
		}
	}
}

func TestP1ManyNested(t *testing.T) {
	v, l := deep(), []api.Pair{pair("a", deep()), pair("b", whole(1))}
	checkErr(t, "Check", value.Check(v), api.ErrDepth)
	checkErr(t, "CheckPairs", value.CheckPairs(l), api.ErrDepth)
	_, why := value.Write(v)
	checkErr(t, "Write", why, api.ErrDepth)
	_, why = value.WritePair(l[0])
	checkErr(t, "WritePair", why, api.ErrDepth)
	if !value.Same(v, l[0].Value) || value.Same(v, list(v)) || !value.SamePairs(l, l) {
		t.Error("Same of what is nested deep")
	}
	if x, is := value.Get(l, "a"); !same(x, v) || !is {
		t.Error("Get of what is nested deep")
	}
	if !samePairs(value.Put(l, "b", v), []api.Pair{pair("a", v), pair("b", v)}) || !samePairs(value.Drop(l, "b"), l[:1]) {
		t.Error("Put or Drop of what is nested deep")
	}
}

func TestP3AndP4AlwaysTheSame(t *testing.T) {
	before := runtime.NumGoroutine()
	v := table(keyed(list(whole(1), text("a")), 100)...)
	want, _ := value.Write(v)
	for extra := range 50 {
		v.Pairs = append(make([]api.Pair, 0, 100+extra), v.Pairs...)
		s, why := value.Write(v)
		if s != want || why != api.OK {
			t.Fatalf("Write: %x, error %d", s, why)
		}
		if back, why := value.Read(s + "\x08\x00\x12\x00"); !same(back, v) || why != api.OK {
			t.Fatalf("Read: %v, error %d", back, why)
		}
		bad := table(pair("a", whole(1)), pair("a", whole(1)), pair("b", text("\xff")))
		checkErr(t, "Check", value.Check(bad), api.ErrUtf)
	}
	for range 1000 { // one that is joined may still be on its way out
		if runtime.NumGoroutine() <= before {
			return
		}
		runtime.Gosched()
	}
	t.Errorf("%d goroutines are left", runtime.NumGoroutine()-before)
}
