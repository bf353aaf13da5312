package queue_test

import (
	"fmt"
	"math/rand/v2"
	"runtime"
	"slices"
	"testing"

	"penstock/api"
	"penstock/queue"
)

// life is a queue, and what the tests know of it.
type life struct {
	queue   api.Queue
	size    int
	entries []api.Entry // those that must be there
	acked   map[uint64]int
	others  [][]api.Entry // what else there may be behind a crash
}

func begin(size, most int) *life {
	x := &life{size: size, acked: map[uint64]int{}}
	x.queue, _ = queue.Open(empty(), size, most)
	return x
}

// expect tells that there are the entries that must be there, in order, and no more than may be.
func (x *life) expect(t *testing.T, name string, room int) {
	t.Helper()
	if !slices.Equal(x.queue.Entries, x.entries) || len(x.entries) > room || queue.Check(x.queue) != api.OK {
		t.Fatalf("%s: %s\nwant %s, %d at most", name, shown(x.queue), shownEntries(x.entries), room)
	}
	for _, e := range x.entries {
		if x.acked[e.Seq] > 0 {
			t.Fatalf("%s: %d, which was acknowledged, is there again", name, e.Seq)
		}
	}
}

// put tells whether that was OK.
func (x *life) put(t *testing.T, data string) bool {
	t.Helper()
	next := x.queue.Log.Next
	room := len(x.entries) < x.queue.Most
	q, seq, why := queue.Put(x.queue, data)
	x.queue = q
	behind := append(slices.Clone(x.entries), entry(next, data))
	switch {
	case (why == api.ErrFull && !q.Log.Broken) == room, why == api.OK && seq != next:
		t.Fatalf("Put with room %v: error %d, number %d", room, why, seq)
	case why == api.OK:
		x.entries = behind
	case q.Log.Broken:
		x.others = append(x.others, behind)
	}
	return !q.Log.Broken
}

// lease tells that what is handed out is the first one that is not.
func (x *life) lease(t *testing.T) bool {
	t.Helper()
	q, e, why := queue.Lease(x.queue)
	x.queue = q
	for i := range x.entries {
		if !x.entries[i].Leased {
			x.entries[i].Leased = true
			if e != x.entries[i] || why != api.OK {
				t.Fatalf("Lease: %v, error %d, want %v", e, why, x.entries[i])
			}
			return true
		}
	}
	if why != api.ErrUnknown {
		t.Fatalf("Lease of %s: error %d", shown(q), why)
	}
	return true
}

// some is the place of an entry that is handed out, if one was found.
func (x *life) some(r *rand.Rand) (int, bool) {
	if len(x.entries) == 0 {
		return 0, false
	}
	at := r.IntN(len(x.entries))
	return at, x.entries[at].Leased
}

func (x *life) release(r *rand.Rand) bool {
	if at, is := x.some(r); is {
		x.entries[at].Leased = false
		x.queue, _ = queue.Release(x.queue, x.entries[at].Seq)
	}
	return true
}

func (x *life) ack(t *testing.T, r *rand.Rand) bool {
	t.Helper()
	at, is := x.some(r)
	if !is {
		return true
	}
	seq := x.entries[at].Seq
	before := len(x.queue.Entries)
	left := slices.Delete(slices.Clone(x.entries), at, at+1)
	q, why := queue.Ack(x.queue, seq)
	x.queue = q
	if why != api.OK && len(q.Entries) == before { // whether it was acknowledged the disk knows
		x.others = append(x.others, left)
		return false
	}
	x.acked[seq]++
	x.entries = left
	return why == api.OK
}

// step does anything with the queue, and tells whether its log is as it should be.
func (x *life) step(t *testing.T, r *rand.Rand) bool {
	t.Helper()
	switch r.IntN(6) {
	case 0, 1:
		return x.put(t, someText(r))
	case 2, 3:
		return x.lease(t)
	case 4:
		return x.release(r)
	}
	return x.ack(t, r)
}

// reopen opens the disk till that is done, the power going at some of the steps.
func (x *life) reopen(t *testing.T, r *rand.Rand, d api.Disk, most int) {
	t.Helper()
	for {
		d.Fault, d.Fuse = -1, pick(r, -1, 0, r.IntN(4))
		q, why := queue.Open(d, x.size, most)
		if why == api.OK {
			x.queue = q
			x.queue.Log.Disk.Fuse = -1
			break
		}
		if why != api.ErrDown || queue.Check(q) != api.OK || !q.Log.Broken || len(q.Entries) > 0 {
			t.Fatalf("an opening that is cut off: error %d, %s", why, shown(q))
		}
		d = crash(t, r, q.Log.Disk, 0, 9, r.IntN(60), 1000)
	}
	for i := range x.entries {
		x.entries[i].Leased = false
	}
	for _, l := range x.others {
		for i := range l {
			l[i].Leased = false
		}
		if slices.Equal(l, x.queue.Entries) {
			x.entries = l
		}
	}
	x.others = nil
	x.expect(t, "behind a crash", api.MaxItems)
}

// TestP115Kept does anything with a queue, with faults, and the power going anywhere, in an opening, too; so it is of 11.6 to 11.9.
func TestP115Kept(t *testing.T) {
	r := rand.New(rand.NewPCG(11, 5))
	for range 600 {
		x := begin(pick(r, 1, 20, 50, 200, api.MaxFile), pick(r, 1, 2, 5, 20, api.MaxItems))
		for range 12 {
			room := max(x.queue.Most, len(x.entries))
			x.queue.Log = failing(x.queue.Log, pick(r, -1, r.IntN(20)), r.IntN(2) == 0)
			for range r.IntN(40) {
				done := x.step(t, r)
				room = max(x.queue.Most, min(room, len(x.entries)))
				x.expect(t, "behind a step", room)
				if !done {
					break
				}
			}
			x.reopen(t, r, crash(t, r, x.queue.Log.Disk, 0, 9, r.IntN(60), 1000), pick(r, x.queue.Most, 1, 3))
		}
	}
}

// TestP115WithoutCrash has faults, and openings behind them, as long as the records go on in the same file.
func TestP115WithoutCrash(t *testing.T) {
	r := rand.New(rand.NewPCG(11, 50))
	for range 200 {
		x := begin(api.MaxFile, 9)
		for range 12 {
			x.queue.Log.Disk.Fault = r.IntN(20)
			for range r.IntN(40) {
				if !x.step(t, r) {
					break
				}
			}
			x.reopen(t, r, x.queue.Log.Disk, 9)
		}
	}
}

// checkCutOff has the power go at one change of what is handed in, and keeps each number of bytes: behind that there is one of two lists of entries, the other one, if all bytes are there.
func checkCutOff(t *testing.T, q api.Queue, fuse int, do func(api.Queue) (api.Queue, api.Errno), before, after []api.Entry) {
	t.Helper()
	q.Log.Disk.Fuse = fuse
	cut, why := do(q)
	for keep := range 40 {
		d := crash(t, rand.New(rand.NewPCG(1, 1)), cut.Log.Disk, keep)
		got, whyOpen := queue.Open(d, q.Log.Size, q.Most)
		isBefore, isAfter := slices.Equal(got.Entries, before), slices.Equal(got.Entries, after)
		if whyOpen != api.OK || !isBefore && !isAfter || why == api.OK && !isAfter || fuse == 0 && q.Log.Size == 1 && isAfter || fuse >= 2 && keep == 39 && !isAfter {
			t.Errorf("Size %d, Fuse %d, %d bytes kept: error %d, %s", q.Log.Size, fuse, keep, whyOpen, shownEntries(got.Entries))
		}
	}
}

func TestP115CutOff(t *testing.T) {
	a, b, c := entry(1, "a"), entry(2, "b"), entry(3, "new")
	for _, size := range []int{1, 1000} {
		l := logOf(size, 1, putting("a"), putting("b"))
		for fuse := range 8 {
			checkCutOff(t, queueOf(l, 3, a, b), fuse, func(q api.Queue) (api.Queue, api.Errno) {
				q, _, why := queue.Put(q, "new")
				return q, why
			}, []api.Entry{a, b}, []api.Entry{a, b, c})
			for _, x := range [][]api.Entry{{leased(1, "a"), b, b}, {a, leased(2, "b"), a}, {a, leased(2, "b"), a}} {
				seq := uint64(1)
				if x[1].Leased {
					seq = 2
				}
				checkCutOff(t, queueOf(l, 3, x[:2]...), fuse, func(q api.Queue) (api.Queue, api.Errno) {
					return queue.Ack(q, seq)
				}, []api.Entry{a, b}, x[2:])
			}
		}
	}
}

// TestP116InOrder puts many, among them some that are taken back.
func TestP116InOrder(t *testing.T) {
	q, _ := queue.Open(empty(), 100, 50)
	for i := range 50 {
		q, _, _ = queue.Put(q, fmt.Sprint(i))
	}
	for i := range uint64(50) {
		var e api.Entry
		for range 3 { // it is the first one again
			q, e, _ = queue.Lease(q)
			if e != leased(1+i, fmt.Sprint(i)) {
				t.Fatalf("Lease %d: %v", i, e)
			}
			q, _ = queue.Release(q, e.Seq)
		}
		q, _, _ = queue.Lease(q)
	}
}

// TestP117Once acknowledges in any order, a crash behind each one.
func TestP117Once(t *testing.T) {
	r := rand.New(rand.NewPCG(11, 7))
	for _, size := range []int{1, 30, 1000} {
		q, _ := queue.Open(empty(), size, 20)
		left := []api.Entry{}
		for i := range 20 {
			q, _, _ = queue.Put(q, fmt.Sprint(i))
			left = append(left, entry(uint64(1+i), fmt.Sprint(i)))
		}
		for len(left) > 0 {
			at := r.IntN(len(left))
			for range at + 1 {
				q, _, _ = queue.Lease(q)
			}
			q, _ = queue.Ack(q, left[at].Seq)
			left = slices.Delete(left, at, at+1)
			q, _ = queue.Open(crash(t, r, q.Log.Disk, 0, 99), size, 20)
			if !slices.Equal(q.Entries, left) {
				t.Fatalf("behind an Ack: %s, want %s", shownEntries(q.Entries), shownEntries(left))
			}
		}
		if n := len(q.Log.Disk.Files); n != 1 {
			t.Errorf("Size %d: %d files are left", size, n)
		}
	}
}

func TestP118Room(t *testing.T) {
	l := logOf(1000, 1, many(5)...)
	q, _ := queue.Open(l.Disk, 1000, 3)
	for n := 5; n > 2; n-- {
		if _, _, why := queue.Put(q, "a"); why != api.ErrFull || len(q.Entries) != n {
			t.Errorf("Put to %d entries of 3: error %d", len(q.Entries), why)
		}
		q, _, _ = queue.Lease(q)
		q, _ = queue.Ack(q, q.Entries[0].Seq)
	}
	if q, seq, why := queue.Put(q, "a"); why != api.OK || len(q.Entries) != 3 || seq != 9 {
		t.Errorf("Put to 2 entries of 3: error %d, number %d, %s", why, seq, shown(q))
	}
}

// answers are those of each call that answers a queue.
func answers() map[string]func(api.Queue) api.Queue {
	do := func(kind api.QueueKind) func(api.Queue) api.Queue {
		return func(q api.Queue) api.Queue {
			x, _, _ := queue.Do(q, api.QueueStep{Kind: kind, Data: "e", Seq: 2})
			return x
		}
	}
	return map[string]func(api.Queue) api.Queue{
		"Open":                  func(q api.Queue) api.Queue { x, _ := queue.Open(q.Log.Disk, 1, 9); return x },
		"Put":                   func(q api.Queue) api.Queue { x, _, _ := queue.Put(q, "e"); return x },
		"Put of much":           func(q api.Queue) api.Queue { x, _, _ := queue.Put(q, string(make([]byte, api.MaxBytes))); return x },
		"Lease":                 func(q api.Queue) api.Queue { x, _, _ := queue.Lease(q); return x },
		"Release":               func(q api.Queue) api.Queue { x, _ := queue.Release(q, 2); return x },
		"Release of nothing":    func(q api.Queue) api.Queue { x, _ := queue.Release(q, 3); return x },
		"Ack":                   func(q api.Queue) api.Queue { x, _ := queue.Ack(q, 2); return x },
		"Ack of nothing":        func(q api.Queue) api.Queue { x, _ := queue.Ack(q, 3); return x },
		"Do of Put":             do(api.QueuePut),
		"Do of Lease":           do(api.QueueLease),
		"Do of Release":         do(api.QueueRelease),
		"Do of Ack":             do(api.QueueAck),
		"Do of no kind":         do(api.QueueNone),
		"Put to a broken one":   func(q api.Queue) api.Queue { q.Log.Broken = true; x, _, _ := queue.Put(q, "e"); return x },
		"Lease of a broken one": func(q api.Queue) api.Queue { q.Log.Broken = true; x, _, _ := queue.Lease(q); return x },
		"Put to one that is down": func(q api.Queue) api.Queue {
			q.Log.Disk.Down = true
			x, _, _ := queue.Put(q, "e")
			return x
		},
	}
}

func spoil(q api.Queue) {
	clear(q.Entries[:cap(q.Entries)])
	clear(q.Log.Disk.Files[:cap(q.Log.Disk.Files)])
}

// TestP114NewMemory has lists with room behind them, which must stay as it is, too.
func TestP114NewMemory(t *testing.T) {
	for name, do := range answers() {
		for _, room := range []int{0, 5} {
			q := good()
			q.Entries = append(make([]api.Entry, 0, 3+room), q.Entries...)
			q.Log.Disk.Files = append(make([]api.File, 0, len(q.Log.Disk.Files)+room), q.Log.Disk.Files...)
			files, entries := slices.Clone(q.Log.Disk.Files[:cap(q.Log.Disk.Files)]), slices.Clone(q.Entries[:cap(q.Entries)])
			first, second := do(q), do(q)
			want := second
			want.Entries, want.Log.Disk.Files = slices.Clone(second.Entries), slices.Clone(second.Log.Disk.Files)
			spoil(first)
			if !slices.Equal(q.Log.Disk.Files[:cap(q.Log.Disk.Files)], files) || !slices.Equal(q.Entries[:cap(q.Entries)], entries) {
				t.Errorf("%s: what was handed in is changed, or shares memory with the answer", name)
			}
			spoil(q)
			if !same(second, want) || len(second.Entries) < 2 || len(second.Log.Disk.Files) < 2 {
				t.Errorf("%s: what was handed in, or an earlier answer, is kept: %s", name, shown(second))
			}
		}
	}
}

// someQueue is anything, mostly right; its log mostly goes with its disk.
func someQueue(r *rand.Rand) (q api.Queue, goes bool) {
	var records []string
	for range r.IntN(12) {
		records = append(records, pick(r, putting(someText(r)), putting(someText(r)), acking(r.Uint64N(20)), someText(r)))
	}
	q = queueOf(logOf(pick(r, 1, 30, 100, api.MaxFile), pick[uint64](r, 0, 1, 7), records...), pick(r, 1, 2, 5, api.MaxItems))
	opened, _ := queue.Open(q.Log.Disk, q.Log.Size, q.Most)
	q.Entries = opened.Entries
	for i := range q.Entries {
		q.Entries[i].Leased = r.IntN(2) == 0
	}
	q.Log.Disk.Fuse, q.Log.Disk.Fault = pick(r, -1, -1, r.IntN(5)-2), pick(r, -1, -1, r.IntN(5)-2)
	switch r.IntN(20) {
	case 0:
		q.Most = pick(r, 0, -1, api.MaxItems+1)
	case 1:
		q.Log.Broken = true
	case 2:
		q.Log.Disk.Down = true
	case 3:
		slices.Reverse(q.Entries)
	case 4:
		q.Log.Next = pick(r, 0, endless, endless+1, r.Uint64())
		return q, false
	case 5:
		q.Log.Size = pick(r, 0, -1, api.MaxFile+1)
	case 6:
		q.Log.From = r.Uint64N(9)
		return q, false
	}
	return q, true
}

// TestP119Right does anything with any queues: what is answered is right, beside an error, too. Of a log made by hand that does not go with its disk an Ack answers what segment.Drop tells, which may have From past an entry.
func TestP119Right(t *testing.T) {
	r := rand.New(rand.NewPCG(11, 9))
	for range 6000 {
		q, goes := someQueue(r)
		right := queue.Check(q)
		s := api.QueueStep{Kind: api.QueueKind(r.IntN(6)), Data: someText(r), Seq: r.Uint64N(20)}
		got, e, why := queue.Do(q, s)
		switch {
		case right != api.OK && (why != api.ErrState || !same(got, api.Queue{}) || e != api.Entry{}):
			t.Fatalf("Do of %v with what is not right: error %d, %s", s, why, shown(got))
		case right == api.OK && goes && queue.Check(got) != api.OK, why != api.OK && e != api.Entry{}:
			t.Fatalf("Do of %v with %s: %v, error %d, %s", s, shown(q), e, why, shown(got))
		}
	}
}

func TestP3AndP4AlwaysTheSame(t *testing.T) {
	before := runtime.NumGoroutine()
	for range 30 {
		for name, do := range answers() {
			if first, second := do(good()), do(good()); !same(first, second) {
				t.Errorf("%s: %s, and %s", name, shown(first), shown(second))
			}
		}
	}
	for range 1000 { // one that is joined may still be on its way out
		if runtime.NumGoroutine() <= before {
			return
		}
		runtime.Gosched()
	}
	t.Errorf("%d goroutines are left", runtime.NumGoroutine()-before)
}
