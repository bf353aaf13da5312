package queue_test

import (
	"math"
	"slices"
	"strconv"
	"strings"
	"testing"

	"penstock/api"
	"penstock/queue"
	"penstock/segment"
)

func TestP111OpenPuts(t *testing.T) {
	checkOpen(t, "nothing", empty(), 9, 1, queueOf(logOf(9, 1), 1), api.OK)
	checkEntries(t, "one", logOf(9, 1, putting("a")), entry(1, "a"))
	checkEntries(t, "two in a file", logOf(900, 1, putting("a"), putting("b")), entry(1, "a"), entry(2, "b"))
	checkEntries(t, "two in files", logOf(1, 1, putting("b"), putting("a")), entry(1, "b"), entry(2, "a"))
	checkEntries(t, "others from 0 on", logOf(9, 0, putting("a"), putting("b")), entry(0, "a"), entry(1, "b"))
	checkEntries(t, "great numbers", logOf(9, endless-2, putting("a"), putting("b")), entry(endless-2, "a"), entry(endless-1, "b"))
	checkEntries(t, "any data", logOf(99, 1, putting(""), putting("P"), putting("\x00\xff\n"), putting(acking(1)), putting("")),
		entry(1, ""), entry(2, "P"), entry(3, "\x00\xff\n"), entry(4, acking(1)), entry(5, ""))
	checkEntries(t, "more than Most", logOf(99, 1, many(5)...), entry(1, "0"), entry(2, "1"), entry(3, "2"), entry(4, "3"), entry(5, "4"))
	long := strings.Repeat("x", api.MaxBytes-1)
	checkEntries(t, "long ones", logOf(99, 1, putting(long), putting(long)), entry(1, long), entry(2, long))
}

func TestP111OpenAcks(t *testing.T) {
	puts := []string{putting("a"), putting("b"), putting("c")}
	a, b, c := entry(1, "a"), entry(2, "b"), entry(3, "c")
	with := func(l ...string) api.Log { return logOf(40, 1, slices.Concat(puts, l)...) }
	checkEntries(t, "an ack of the first", with(acking(1)), b, c)
	checkEntries(t, "an ack of one between", with(acking(2)), a, c)
	checkEntries(t, "an ack of the last", with(acking(3)), a, b)
	checkEntries(t, "acks of all", with(acking(3), acking(1), acking(2)))
	checkEntries(t, "an ack twice", with(acking(2), acking(2)), a, c)
	checkEntries(t, "acks of nothing", with(acking(0), acking(4), acking(5), acking(6), acking(math.MaxUint64)), a, b, c)
	checkEntries(t, "an ack, and a put behind it", with(acking(1), putting("d")), b, c, entry(5, "d"))
	checkEntries(t, "an ack of what comes", logOf(40, 1, acking(2), putting("a"), acking(4), putting("b"), acking(2)), entry(4, "b"))
	checkEntries(t, "acks alone", logOf(40, 7, acking(1), acking(8), acking(7)))
	checkEntries(t, "acks of what is dropped", logOf(40, 7, acking(1), putting("a"), acking(6)), entry(8, "a"))
}

// TestP111OpenNumbers has acks whose number is another one in one bit alone.
func TestP111OpenNumbers(t *testing.T) {
	const from = uint64(0x0123456789abcdef)
	checkEntries(t, "an ack of a great number", logOf(99, from, putting("a"), putting("b"), acking(from)), entry(from+1, "b"))
	for bit := range 64 {
		checkEntries(t, "bit "+strconv.Itoa(bit), logOf(99, from, putting("a"), acking(from^1<<bit)), entry(from, "a"))
	}
	other := "A\x01\x23\x45\x67\x89\xab\xcd\xef"
	checkEntries(t, "the highest byte first", logOf(99, from, putting("a"), other), entry(from, "a"))
}

func TestP111OpenOthers(t *testing.T) {
	whole := acking(1)
	for _, other := range []string{"", "p", "pa", "a", "A", whole[:8], whole + "\x00", whole[1:], "a" + whole[1:], "Q", "\x00", " Pa", " " + whole, "B" + whole[1:], whole + whole} {
		checkEntries(t, "other "+strconv.Quote(other), logOf(99, 1, putting("a"), other, putting("b")), entry(1, "a"), entry(3, "b"))
	}
}

func TestP111OpenMost(t *testing.T) {
	for _, n := range []int{math.MinInt, -1, 0, most + 1, math.MaxInt} {
		checkOpen(t, "Most "+strconv.Itoa(n), empty(), 9, n, api.Queue{}, api.ErrRange)
	}
	for _, n := range []int{1, 2, most - 1, most} {
		checkOpen(t, "Most "+strconv.Itoa(n), empty(), 9, n, queueOf(logOf(9, 1), n), api.OK)
	}
}

func TestP111OpenMany(t *testing.T) {
	full := logOf(api.MaxFile, 1, many(most)...)
	var want []api.Entry
	for i := range most {
		want = append(want, entry(uint64(1+i), strconv.Itoa(i)))
	}
	checkOpen(t, "as many as may be", full.Disk, api.MaxFile, 1, queueOf(full, 1, want...), api.OK)
	more := logOf(api.MaxFile, 1, many(most+1)...)
	checkOpen(t, "one more", more.Disk, api.MaxFile, most, api.Queue{}, api.ErrMany)
	acked, _ := segment.Append(more, acking(most+1))
	checkOpen(t, "one more, and an ack", acked.Disk, api.MaxFile, 1, queueOf(acked, 1, want...), api.OK)
	more.Disk.Files[0].Data += "torn"
	checkOpen(t, "one more, and torn", more.Disk, api.MaxFile, 1, api.Queue{}, api.ErrMany)
}

// TestP111OpenRefused has all errors that apply at once, and then one less each time.
func TestP111OpenRefused(t *testing.T) {
	d := logOf(api.MaxFile, 1, many(most+1)...).Disk
	d.Files[0].Data += "torn"
	d.Down, d.Fault = true, 0
	wrong := d
	wrong.Files = append(slices.Clone(d.Files), d.Files[0])
	checkOpen(t, "a disk that is not right", wrong, 0, 0, api.Queue{}, api.ErrState)
	checkOpen(t, "a disk that is not right", wrong, 1, 1, api.Queue{}, api.ErrState)
	checkOpen(t, "one that is down, Most 0, Size 0", d, 0, 0, api.Queue{}, api.ErrRange)
	checkOpen(t, "one that is down, Most 0", d, 1, 0, api.Queue{}, api.ErrRange)
	checkOpen(t, "one that is down, Size 0", d, 0, 1, api.Queue{}, api.ErrRange)
	checkOpen(t, "one that is down, a great Size", d, api.MaxFile+1, 1, api.Queue{}, api.ErrRange)
	checkOpen(t, "one that is down", d, 1, 1, api.Queue{}, api.ErrDown)
	d.Down = false
	broken := queueOf(api.Log{Disk: d, Size: 7, Broken: true}, 9)
	broken.Log.Disk.Fault = -1
	checkOpen(t, "one that fails", d, 7, 9, broken, api.ErrDisk)
	d.Fault, d.Fuse = -1, 0
	broken.Log.Disk.Down, broken.Log.Disk.Fuse = true, 0
	checkOpen(t, "one whose power goes", d, 7, 9, broken, api.ErrDown)
	if why := queue.Check(broken); why != api.OK {
		t.Errorf("Check of one that is broken: error %d", why)
	}
	d.Fuse = -1
	checkOpen(t, "too many", d, 7, 9, api.Queue{}, api.ErrMany)
}

// TestP111OpenFails has a disk fail at each change that an opening does.
func TestP111OpenFails(t *testing.T) {
	l := logOf(1, 1, putting("a"), putting("b"), putting("c"), putting("d"))
	l.Disk.Files[1].Data = l.Disk.Files[1].Data[:9]
	l.Disk.Files[1].Synced = 9
	for at := range 5 {
		for _, power := range []bool{false, true} {
			d := failing(l, at, power).Disk
			log, records, why := segment.Open(d, 5)
			want := queueOf(log, 6)
			if why == api.OK {
				want.Entries = []api.Entry{entry(1, "a")}
			}
			checkOpen(t, "a torn one, failing at "+strconv.Itoa(at), d, 5, 6, want, why)
			if (why == api.OK) != (at >= 3) || len(records) != len(want.Entries) {
				t.Errorf("an opening that fails at %d: error %d", at, why)
			}
		}
	}
}

// good is a queue of three entries in two files, the first one dropped, the second one handed out.
func good() api.Queue {
	l := logOf(40, 1, putting("a"), putting("b"), putting("c"), acking(1), putting("d"))
	return queueOf(l, 4, leased(2, "b"), entry(3, "c"), entry(5, "d"))
}

// rights are queues that are right, whatever their logs have.
func rights() map[string]api.Queue {
	l := map[string]api.Queue{
		"nothing":        queueOf(api.Log{Size: 1}, 1),
		"good":           good(),
		"the least Most": queueOf(good().Log, 1, good().Entries...),
		"the most Most":  queueOf(good().Log, most),
		"other entries":  queueOf(logOf(9, 5, "", ""), 1, entry(5, "x"), leased(6, "y")),
		"great numbers":  queueOf(logOf(9, endless-1, putting("")), 1, entry(endless-1, "")),
		"long data":      queueOf(logOf(9, 1, ""), 1, entry(1, strings.Repeat("x", api.MaxBytes-1))),
		"From 0":         queueOf(logOf(9, 0, ""), 1, entry(0, "")),
	}
	var all []api.Entry
	for i := range uint64(most) {
		all = append(all, api.Entry{Seq: 2 * i, Leased: i%3 == 0})
	}
	l["as many as may be"] = queueOf(api.Log{Size: 1, Next: 2*most - 1}, 1, all...)
	broken := good()
	broken.Log.Broken = true
	l["broken"] = broken
	down := good()
	down.Log.Disk.Down = true
	l["down"] = down
	return l
}

// wrongs are queues that are not right.
func wrongs() map[string]api.Queue {
	l := map[string]api.Queue{"none": {}}
	wrong := func(name string, do func(*api.Queue)) {
		q := good()
		do(&q)
		l[name] = q
		q.Log.Broken = true
		l[name+", broken"] = q
	}
	wrong("Most 0", func(q *api.Queue) { q.Most = 0 })
	wrong("Most below 0", func(q *api.Queue) { q.Most = math.MinInt })
	wrong("Most too great", func(q *api.Queue) { q.Most = most + 1 })
	wrong("a log that is not right", func(q *api.Queue) { q.Log.Size = 0 })
	wrong("Next too great", func(q *api.Queue) { q.Log.Next = endless + 1 })
	wrong("a disk that is not right", func(q *api.Queue) { q.Log.Disk.Files[0].Synced = -1 })
	wrong("ahead of From", func(q *api.Queue) { q.Log.From = 3 })
	wrong("at Next", func(q *api.Queue) { q.Log.Next = 5 })
	wrong("the greatest number", func(q *api.Queue) { q.Entries[2].Seq = math.MaxUint64 })
	wrong("a number twice", func(q *api.Queue) { q.Entries[1].Seq = 2 })
	wrong("a number twice at the end", func(q *api.Queue) { q.Entries[1].Seq = 5 })
	wrong("numbers that fall", func(q *api.Queue) { slices.Reverse(q.Entries) })
	wrong("long data", func(q *api.Queue) { q.Entries[0].Data = strings.Repeat("x", api.MaxBytes) })
	wrong("long data at the end", func(q *api.Queue) { q.Entries[2].Data = strings.Repeat("x", api.MaxBytes) })
	many := rights()["as many as may be"]
	many.Log.Next++
	many.Entries = append(many.Entries, entry(2*most-1, ""))
	l["too many"] = many
	return l
}

func TestP111Check(t *testing.T) {
	for name, q := range rights() {
		if why := queue.Check(q); why != api.OK {
			t.Errorf("Check of %s: error %d", name, why)
		}
	}
	for name, q := range wrongs() {
		if why := queue.Check(q); why != api.ErrState {
			t.Errorf("Check of %s: error %d", name, why)
		}
	}
}
