package queue_test

import (
	"encoding/binary"
	"fmt"
	"math/rand/v2"
	"slices"
	"strconv"
	"strings"
	"testing"

	"penstock/api"
	"penstock/disk"
	"penstock/queue"
	"penstock/segment"
)

const (
	most    = api.MaxItems
	endless = uint64(1) << 62 // no record has that number
)

func putting(data string) string { return "P" + data }

func acking(n uint64) string {
	return string(binary.LittleEndian.AppendUint64([]byte("A"), n))
}

// empty is a disk that never fails.
func empty() api.Disk { return api.Disk{Fuse: -1, Fault: -1} }

// logOf has these records, from a number on.
func logOf(size int, from uint64, records ...string) api.Log {
	l := api.Log{Disk: empty(), Size: size, From: from, Next: from}
	for _, s := range records {
		var why api.Errno
		if l, why = segment.Append(l, s); why != api.OK {
			panic(why)
		}
	}
	return l
}

// many are so many puts.
func many(n int) []string {
	var l []string
	for i := range n {
		l = append(l, putting(strconv.Itoa(i)))
	}
	return l
}

func entry(seq uint64, data string) api.Entry { return api.Entry{Seq: seq, Data: data} }

func leased(seq uint64, data string) api.Entry {
	return api.Entry{Seq: seq, Data: data, Leased: true}
}

func queueOf(l api.Log, most int, entries ...api.Entry) api.Queue {
	return api.Queue{Log: l, Most: most, Entries: entries}
}

func sameLog(a, b api.Log) bool {
	return slices.Equal(a.Disk.Files, b.Disk.Files) && a.Disk.Down == b.Disk.Down && a.Disk.Fuse == b.Disk.Fuse && a.Disk.Fault == b.Disk.Fault &&
		a.Size == b.Size && a.From == b.From && a.Next == b.Next && a.Broken == b.Broken
}

func same(a, b api.Queue) bool {
	return sameLog(a.Log, b.Log) && slices.Equal(a.Entries, b.Entries) && a.Most == b.Most
}

func brief(s string) string {
	if len(s) > 40 {
		return strconv.Quote(s[:40]) + ".. of " + strconv.Itoa(len(s))
	}
	return strconv.Quote(s)
}

func shownEntries(l []api.Entry) string {
	s := strconv.Itoa(len(l)) + " entries:"
	for _, e := range l[:min(len(l), 8)] {
		s += fmt.Sprintf(" %d %s %v", e.Seq, brief(e.Data), e.Leased)
	}
	return s
}

func shown(q api.Queue) string {
	var l []string
	for _, f := range q.Log.Disk.Files[:min(len(q.Log.Disk.Files), 8)] {
		l = append(l, f.Name+" of "+strconv.Itoa(len(f.Data))+", safe "+strconv.Itoa(f.Synced))
	}
	d := q.Log.Disk
	return fmt.Sprintf("%s, Most %d, in [%s] of %d, Down %v, Fuse %d, Fault %d, Size %d, From %d, Next %d, Broken %v",
		shownEntries(q.Entries), q.Most, strings.Join(l, "; "), len(d.Files), d.Down, d.Fuse, d.Fault, q.Log.Size, q.Log.From, q.Log.Next, q.Log.Broken)
}

func check(t *testing.T, name string, q api.Queue, why api.Errno, want api.Queue, wantWhy api.Errno) {
	t.Helper()
	if why != wantWhy || !same(q, want) {
		t.Errorf("%s: error %d, %s\nwant %d, %s", name, why, shown(q), wantWhy, shown(want))
	}
}

// checkOpen tells what an opening of d answers, and that the answer is right.
func checkOpen(t *testing.T, name string, d api.Disk, size, most int, want api.Queue, wantWhy api.Errno) {
	t.Helper()
	q, why := queue.Open(d, size, most)
	check(t, "Open of "+name, q, why, want, wantWhy)
	if why == api.OK && queue.Check(q) != api.OK {
		t.Errorf("Open of %s answers what is not right: %s", name, shown(q))
	}
}

// checkEntries tells what entries the records of a log have.
func checkEntries(t *testing.T, name string, l api.Log, want ...api.Entry) {
	t.Helper()
	checkOpen(t, name, l.Disk, l.Size, 3, queueOf(l, 3, want...), api.OK)
}

func checkPut(t *testing.T, name string, q api.Queue, data string, want api.Queue, wantSeq uint64, wantWhy api.Errno) {
	t.Helper()
	got, seq, why := queue.Put(q, data)
	check(t, "Put to "+name, got, why, want, wantWhy)
	if seq != wantSeq {
		t.Errorf("Put to %s: number %d, want %d", name, seq, wantSeq)
	}
}

func checkLease(t *testing.T, name string, q, want api.Queue, wantEntry api.Entry, wantWhy api.Errno) {
	t.Helper()
	got, e, why := queue.Lease(q)
	check(t, "Lease of "+name, got, why, want, wantWhy)
	if e != wantEntry {
		t.Errorf("Lease of %s: %v, want %v", name, e, wantEntry)
	}
}

func checkRelease(t *testing.T, name string, q api.Queue, seq uint64, want api.Queue, wantWhy api.Errno) {
	t.Helper()
	got, why := queue.Release(q, seq)
	check(t, "Release of "+strconv.FormatUint(seq, 10)+" of "+name, got, why, want, wantWhy)
}

func checkAck(t *testing.T, name string, q api.Queue, seq uint64, want api.Queue, wantWhy api.Errno) {
	t.Helper()
	got, why := queue.Ack(q, seq)
	check(t, "Ack of "+strconv.FormatUint(seq, 10)+" of "+name, got, why, want, wantWhy)
}

// checkAll tells that each call answers that error, and the queue.
func checkAll(t *testing.T, name string, q, want api.Queue, wantWhy api.Errno) {
	t.Helper()
	checkPut(t, name, q, "a", want, 0, wantWhy)
	checkPut(t, name, q, strings.Repeat("x", api.MaxBytes), want, 0, wantWhy)
	checkLease(t, name, q, want, api.Entry{}, wantWhy)
	for _, seq := range []uint64{0, 1, 2, 1 << 63} {
		checkRelease(t, name, q, seq, want, wantWhy)
		checkAck(t, name, q, seq, want, wantWhy)
	}
	for kind := range api.QueueKind(7) {
		got, e, why := queue.Do(q, api.QueueStep{Kind: kind, Data: "a", Seq: 1})
		check(t, fmt.Sprintf("Do of kind %d with %s", kind, name), got, why, want, wantWhy)
		if e != (api.Entry{}) {
			t.Errorf("Do of kind %d with %s: entry %v", kind, name, e)
		}
	}
}

func pick[T any](r *rand.Rand, l ...T) T { return l[r.IntN(len(l))] }

func someText(r *rand.Rand) string {
	b := make([]byte, pick(r, 0, 1, r.IntN(5), r.IntN(40)))
	for i := range b {
		b[i] = byte(r.IntN(256))
	}
	return string(b)
}

// failing is l with a disk that fails at the change of that number, by a fault, or by the power that goes.
func failing(l api.Log, at int, power bool) api.Log {
	if power {
		l.Disk.Fuse = at
	} else {
		l.Disk.Fault = at
	}
	return l
}

// crash keeps as many bytes that are not safe as the list picks from.
func crash(t *testing.T, r *rand.Rand, d api.Disk, keeps ...int) api.Disk {
	t.Helper()
	l := make([]int, len(d.Files))
	for i := range l {
		l[i] = pick(r, keeps...)
	}
	d, why := disk.Crash(d, l)
	if why != api.OK {
		t.Fatalf("Crash: error %d", why)
	}
	return d
}
