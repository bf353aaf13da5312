package queue_test

import (
	"fmt"
	"math/rand/v2"
	"slices"
	"strings"
	"testing"

	"penstock/api"
	"penstock/queue"
	"penstock/segment"
)

func TestP112NotRight(t *testing.T) {
	for name, q := range wrongs() {
		checkAll(t, name, q, api.Queue{}, api.ErrState)
	}
}

func TestP112Broken(t *testing.T) {
	for name, q := range rights() {
		q.Log.Broken = true
		checkAll(t, name+", broken", q, q, api.ErrState)
		q.Log.Disk.Down = true
		checkAll(t, name+", broken, down", q, q, api.ErrState)
	}
}

// with is q behind what is done with its log.
func with(t *testing.T, q api.Queue, record string, entries ...api.Entry) api.Queue {
	t.Helper()
	l, why := segment.Append(q.Log, record)
	if why != api.OK {
		t.Fatalf("Append: error %d", why)
	}
	return queueOf(l, q.Most, entries...)
}

func TestP112Put(t *testing.T) {
	q := good()
	checkPut(t, "a good one", q, "e", with(t, q, putting("e"), leased(2, "b"), entry(3, "c"), entry(5, "d"), entry(6, "e")), 6, api.OK)
	for _, data := range []string{"", "P", "\x00\xff\n", acking(2), strings.Repeat("x", api.MaxBytes-1)} {
		none := queueOf(logOf(9, 1), 1)
		checkPut(t, "an empty one", none, data, with(t, none, putting(data), entry(1, data)), 1, api.OK)
	}
	last := queueOf(api.Log{Disk: empty(), Size: 1, Next: endless - 1}, 1)
	checkPut(t, "one with room for a number", last, "a", with(t, last, putting("a"), entry(endless-1, "a")), endless-1, api.OK)
}

// TestP112PutRefused has all errors that apply at once, and then one less each time.
func TestP112PutRefused(t *testing.T) {
	long := strings.Repeat("x", api.MaxBytes)
	q := good()
	q.Log.Next = endless
	q.Log.Disk.Fault = 0
	for most := 1; most <= 3; most++ {
		q.Most = most
		checkPut(t, "a full one", q, long, q, 0, api.ErrFull)
		checkPut(t, "a full one", q, "", q, 0, api.ErrFull)
	}
	q.Most = 4
	checkPut(t, "one without numbers", q, long, q, 0, api.ErrLong)
	checkPut(t, "one without numbers", q, long+long, q, 0, api.ErrLong)
	checkPut(t, "one without numbers", q, long[1:], q, 0, api.ErrRange)
	q.Log.Next = endless - 1
	want := q
	want.Log.Broken, want.Log.Disk.Fault = true, -1
	checkPut(t, "one that fails", q, long[1:], want, 0, api.ErrDisk)
	q.Log.Disk.Down = true
	want = q
	want.Log.Broken = true
	checkPut(t, "one that is down", q, "a", want, 0, api.ErrDown)
	all := rights()["as many as may be"]
	all.Log.Disk = empty()
	checkPut(t, "the fullest one", all, "a", all, 0, api.ErrFull)
	all.Most = most
	checkPut(t, "the fullest one", all, "a", all, 0, api.ErrFull)
	all.Entries = all.Entries[1:]
	checkPut(t, "one with room for one", all, "a", with(t, all, putting("a"), append(slices.Clone(all.Entries), entry(all.Log.Next, "a"))...), all.Log.Next, api.OK)
}

// TestP112PutFails has the disk fail at each change: the log is as segment has it, the entry not there.
func TestP112PutFails(t *testing.T) {
	for _, size := range []int{1, 20, 60, 1000} {
		for at := range 4 {
			for _, power := range []bool{false, true} {
				q := good()
				q.Log.Size = size
				q.Log = failing(q.Log, at, power)
				log, why := segment.Append(q.Log, putting("new"))
				want, seq := queueOf(log, q.Most, q.Entries...), uint64(0)
				if why == api.OK {
					want.Entries, seq = append(want.Entries, entry(6, "new")), 6
				}
				checkPut(t, fmt.Sprintf("one of Size %d that fails at %d, by the power: %v", size, at, power), q, "new", want, seq, why)
			}
		}
	}
}

func TestP112Lease(t *testing.T) {
	q := good()
	want := good()
	want.Entries[1].Leased = true
	checkLease(t, "one whose first is leased", q, want, leased(3, "c"), api.OK)
	q.Entries[0].Leased = false
	want = good()
	checkLease(t, "one of which none is leased", q, want, leased(2, "b"), api.OK)
	q.Entries[0].Leased, q.Entries[1].Leased = true, true
	want.Entries[1].Leased, want.Entries[2].Leased = true, true
	checkLease(t, "one whose last is not", q, want, leased(5, "d"), api.OK)
	checkLease(t, "one of which all are", want, want, api.Entry{}, api.ErrUnknown)
	none := queueOf(logOf(9, 1), 1)
	checkLease(t, "an empty one", none, none, api.Entry{}, api.ErrUnknown)
	q.Log.Disk.Down = true
	want.Log.Disk.Down = true
	checkLease(t, "one that is down", q, want, leased(5, "d"), api.OK)
}

func TestP112Release(t *testing.T) {
	q := good()
	q.Entries[2].Leased = true
	for seq, at := range map[uint64]int{2: 0, 5: 2} {
		want := good()
		want.Entries[2].Leased = true
		want.Entries[at].Leased = false
		checkRelease(t, "a good one", q, seq, want, api.OK)
	}
	for _, seq := range []uint64{0, 1, 3, 4, 6, 7, 1 << 63} {
		checkRelease(t, "a good one", q, seq, q, api.ErrLease)
	}
	q.Entries[2].Leased = false
	checkRelease(t, "a good one", q, 5, q, api.ErrLease)
	none := queueOf(logOf(9, 1), 1)
	checkRelease(t, "an empty one", none, 1, none, api.ErrLease)
	q.Log.Disk.Down = true
	want := good()
	want.Log.Disk.Down = true
	want.Entries[0].Leased = false
	checkRelease(t, "one that is down", q, 2, want, api.OK)
}

// dropped is q behind what is done with its log, up to a number.
func dropped(t *testing.T, q api.Queue, seq uint64) api.Queue {
	t.Helper()
	l, why := segment.Drop(q.Log, seq)
	if why != api.OK {
		t.Fatalf("Drop: error %d", why)
	}
	q.Log = l
	return q
}

// four is a queue of four entries, each in a file, all handed out.
func four() api.Queue {
	l := logOf(1, 1, putting("a"), putting("b"), putting("c"), putting("d"))
	return queueOf(l, 4, leased(1, "a"), leased(2, "b"), leased(3, "c"), leased(4, "d"))
}

func TestP112Ack(t *testing.T) {
	q := four()
	for seq := range uint64(4) {
		seq++
		entries := slices.Delete(slices.Clone(q.Entries), int(seq-1), int(seq))
		want := dropped(t, with(t, q, acking(seq), entries...), entries[0].Seq)
		checkAck(t, "four", q, seq, want, api.OK)
		if files := len(want.Log.Disk.Files); seq == 1 && files != 4 || seq > 1 && files != 5 {
			t.Errorf("%d files behind an Ack of %d", files, seq)
		}
	}
	one := q
	one.Entries = q.Entries[3:]
	want := dropped(t, with(t, one, acking(4)), 6)
	checkAck(t, "the last one", one, 4, want, api.OK)
	if names := want.Log.Disk.Files; len(names) != 1 || names[0].Name != "0000000000000005" || want.Log.From != 5 {
		t.Errorf("behind the last Ack there is %s", shown(want))
	}
	great := queueOf(logOf(9, 0x0123456789abcdef, putting("a"), putting("b")), 9, leased(0x0123456789abcdef, "a"), entry(0x0123456789abcdf0, "b"))
	checkAck(t, "a great number", great, 0x0123456789abcdef, dropped(t, with(t, great, acking(0x0123456789abcdef), great.Entries[1]), 0x0123456789abcdf0), api.OK)
}

func TestP112AckRefused(t *testing.T) {
	q := good()
	q.Log.Next = endless
	q.Log.Disk.Fault = 0
	for _, seq := range []uint64{0, 1, 3, 4, 5, 6, 1 << 63} {
		checkAck(t, "a good one", q, seq, q, api.ErrLease)
	}
	checkAck(t, "one without numbers", q, 2, q, api.ErrRange)
	q.Log.Next = endless - 1
	want := q
	want.Log.Broken, want.Log.Disk.Fault = true, -1
	checkAck(t, "one that fails", q, 2, want, api.ErrDisk)
	q.Log.Disk.Down = true
	checkAck(t, "one that is down", q, 3, q, api.ErrLease)
	want = q
	want.Log.Broken = true
	checkAck(t, "one that is down", q, 2, want, api.ErrDown)
	none := queueOf(logOf(9, 1), 1)
	checkAck(t, "an empty one", none, 1, none, api.ErrLease)
	full := four()
	full.Most = 2
	checkAck(t, "one with more than Most", full, 2, dropped(t, with(t, full, acking(2), full.Entries[0], full.Entries[2], full.Entries[3]), 1), api.OK)
}

// checkAckFails is of a disk that may fail: the entry is no more, if the ack was written.
func checkAckFails(t *testing.T, q api.Queue, seq uint64, left []api.Entry, upTo uint64) (done bool) {
	t.Helper()
	log, why := segment.Append(q.Log, acking(seq))
	want := queueOf(log, q.Most, q.Entries...)
	if why == api.OK {
		want.Log, why = segment.Drop(log, upTo)
		want.Entries = left
	}
	checkAck(t, fmt.Sprintf("one of Size %d, Fault %d, Fuse %d", q.Log.Size, q.Log.Disk.Fault, q.Log.Disk.Fuse), q, seq, want, why)
	return why == api.OK
}

func TestP112AckFails(t *testing.T) {
	for size, steps := range map[int]int{1: 3 + 4, 1000: 2 + 3} { // the file that is begun, and all others that go
		for at := range 9 {
			for _, power := range []bool{false, true} {
				q := four()
				q.Log.Size = size
				q.Log = failing(q.Log, at, power)
				q.Entries = q.Entries[3:]
				if done := checkAckFails(t, q, 4, nil, 6); done != (at >= steps) {
					t.Errorf("Size %d, an Ack that fails at %d: done %v", size, at, done)
				}
				q.Entries = []api.Entry{leased(2, "b"), entry(4, "d")}
				checkAckFails(t, q, 2, []api.Entry{entry(4, "d")}, 4)
				q.Entries = []api.Entry{leased(1, "a"), leased(2, "b")}
				checkAckFails(t, q, 2, []api.Entry{leased(1, "a")}, 1)
			}
		}
	}
}

// TestP113Do is held against the calls.
func TestP113Do(t *testing.T) {
	r := rand.New(rand.NewPCG(11, 3))
	for range 2000 {
		q := pick(r, good(), four(), queueOf(logOf(9, 1), 1))
		q.Log = failing(q.Log, r.IntN(9)-1, r.IntN(2) == 0)
		s := api.QueueStep{Data: someText(r), Seq: r.Uint64N(7)}
		var e api.Entry
		var why api.Errno
		want := q
		switch s.Kind = api.QueueKind(r.IntN(7)); s.Kind {
		case api.QueuePut:
			want, e.Seq, why = queue.Put(q, s.Data)
		case api.QueueLease:
			want, e, why = queue.Lease(q)
		case api.QueueRelease:
			want, why = queue.Release(q, s.Seq)
		case api.QueueAck:
			want, why = queue.Ack(q, s.Seq)
		default:
			why = api.ErrType
		}
		got, gotEntry, gotWhy := queue.Do(q, s)
		check(t, fmt.Sprintf("Do of %v", s), got, gotWhy, want, why)
		if gotEntry != e {
			t.Errorf("Do of %v with %s: %v, want %v", s, shown(q), gotEntry, e)
		}
	}
}

func TestP113Kinds(t *testing.T) {
	q := good()
	for kind, want := range map[api.QueueKind]api.Entry{api.QueuePut: {Seq: 6}, api.QueueLease: leased(3, "c"), api.QueueRelease: {}, api.QueueAck: {}} {
		got, e, why := queue.Do(q, api.QueueStep{Kind: kind, Data: "e", Seq: 2})
		if e != want || why != api.OK || same(got, q) {
			t.Errorf("Do of kind %d: %v, error %d, %s", kind, e, why, shown(got))
		}
	}
	for _, kind := range []api.QueueKind{api.QueueNone, api.QueueCount, 255} {
		got, e, why := queue.Do(q, api.QueueStep{Kind: kind, Data: "e", Seq: 2})
		check(t, fmt.Sprintf("Do of kind %d", kind), got, why, q, api.ErrType)
		if e != (api.Entry{}) {
			t.Errorf("Do of kind %d: %v", kind, e)
		}
	}
}

// TestP11Example is the chapter's.
func TestP11Example(t *testing.T) {
	q, _ := queue.Open(empty(), 100, 9)
	q, _, _ = queue.Put(q, "a")
	q, _, _ = queue.Put(q, "b")
	q, e, _ := queue.Lease(q)
	if e != leased(1, "a") {
		t.Errorf("Lease: %v", e)
	}
	q, _ = queue.Ack(q, e.Seq)
	checkOpen(t, "the disk", q.Log.Disk, 100, 9, queueOf(q.Log, 9, entry(2, "b")), api.OK)
}
