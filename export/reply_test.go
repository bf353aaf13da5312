package export_test

import (
	"fmt"
	"math"
	"math/rand/v2"
	"slices"
	"strings"
	"testing"

	"penstock/api"
	"penstock/export"
	"penstock/queue"
	"penstock/trace"
)

func partial(t *testing.T, n int64) string {
	t.Helper()
	s, why := trace.WriteReply(api.Partial{Rejected: n, Message: "full"})
	if why != api.OK {
		t.Fatalf("WriteReply: error %d", why)
	}
	return s
}

// ended is e without the flight of that number, whose entry was acknowledged.
func ended(e api.Exporter, seq uint64, count api.Ledger) api.Exporter {
	e = twin(e)
	e.Queue, _ = queue.Ack(e.Queue, seq)
	e.Flights = slices.DeleteFunc(e.Flights, func(f api.Flight) bool { return f.Seq == seq })
	e.Ledger.Delivered += count.Delivered
	e.Ledger.Rejected += count.Rejected
	e.Ledger.Never += count.Never
	e.Ledger.Spent += count.Spent
	return e
}

// underWay is good, the flight of three items waiting, too; it was tried once, since 20.
func underWay() api.Exporter {
	return changedBy(func(e *api.Exporter) { e.Flights[1].Waiting = true })
}

func TestP184Reply(t *testing.T) {
	e := underWay()
	for status := -5; status < 700; status++ {
		want := ended(e, 3, api.Ledger{Never: 3})
		switch {
		case status >= 200 && status < 300:
			want = ended(e, 3, api.Ledger{Delivered: 3})
		case status == 0, status == 429, status == 502, status == 503, status == 504:
			want = twin(e)
			want.Flights[1] = flight(3, 3, false, 2, 20, 260)
		}
		check(t, fmt.Sprint("Reply ", status), reply(e, two(), 3, status, "", 60), becomes(want))
	}
	for _, status := range []int{math.MinInt, math.MaxInt, -503, 1 << 32} {
		check(t, fmt.Sprint("Reply ", status), reply(e, two(), 3, status, "", 60), becomes(ended(e, 3, api.Ledger{Never: 3})))
	}
	check(t, "Reply to the first one", reply(e, two(), 1, 200, "", 60), becomes(ended(e, 1, api.Ledger{Delivered: 2})))
	check(t, "Reply to the first one", reply(e, two(), 1, 404, partial(t, 1), 60), becomes(ended(e, 1, api.Ledger{Never: 2})))
}

func TestP184ReplyRefused(t *testing.T) {
	e := good()
	for _, seq := range []uint64{0, 2, 3, 4, 5, 6, 1 << 62, math.MaxUint64} { // not there, not handed out, not waiting, handed out to nobody
		for _, status := range []int{200, 400, 503, 0, -1} {
			check(t, fmt.Sprintf("Reply %d to %d", status, seq), reply(e, two(), seq, status, "", 60), refused(api.ErrLease))
			check(t, fmt.Sprintf("Reply %d to %d, at no time", status, seq), reply(e, two(), seq, status, "", math.MaxUint64), refused(api.ErrLease))
		}
	}
	for _, now := range []uint64{0, 9, 1<<62 + 1, math.MaxUint64} { // ahead of Since, or no time
		for _, status := range []int{0, 429, 502, 503, 504} {
			check(t, fmt.Sprintf("Reply %d at %d", status, now), reply(e, two(), 1, status, "", now), refused(api.ErrRange))
		}
		check(t, fmt.Sprint("Reply 200 at ", now), reply(e, two(), 1, 200, "", now), becomes(ended(e, 1, api.Ledger{Delivered: 2})))
		check(t, fmt.Sprint("Reply 500 at ", now), reply(e, two(), 1, 500, "", now), becomes(ended(e, 1, api.Ledger{Never: 2})))
	}
	if x := reply(e, two(), 1, 503, "", 10); x.Why != api.OK || x.Exporter.Flights[0].Retry.Next != 110 {
		t.Errorf("Reply 503 at Since: %v", x)
	}
	forever := rules(8, 4096, 2, 100, 500, 0)
	if x := reply(e, forever, 1, 503, "", 1<<62); x.Why != api.OK || x.Exporter.Flights[0].Retry.Next != 1<<62+100 {
		t.Errorf("Reply 503 at the last time: %v", x)
	}
}

// TestP184ReplyBodies has what a backend says that it did not take.
func TestP184ReplyBodies(t *testing.T) {
	e := underWay()
	for body, rejected := range map[string]uint64{
		"":                                 0,
		partial(t, 0):                      0,
		partial(t, 1):                      1,
		partial(t, 2):                      2,
		partial(t, 3):                      3,
		partial(t, 4):                      3,
		partial(t, 1<<40):                  3,
		partial(t, math.MaxInt64):          3,
		"\x0a\x00":                         0,
		"\x0a\x02\x08\x02":                 2,
		"\x0a\x02\x08\x02\x0a\x02\x08\x01": 1, // the last one
		"\x12\x02\x08\x02":                 0,
		"\x0a\x0b\x08\xff\xff\xff\xff\xff\xff\xff\xff\xff\x01": 0, // fewer than none
		"\x0a\x0b\x08\x80\x80\x80\x80\x80\x80\x80\x80\x80\x01": 0,
		"\x0a\x05\x08\x02\x12\x01\xff":                         0, // no text
		"\x0a":                                                 0,
		"\xff":                                                 0,
		"x":                                                    0,
		"hello":                                                0,
		"\x0a\x02\x08":                                         0,
		strings.Repeat("x", api.MaxBytes+1):                    0,
		strings.Repeat("\x0a", api.MaxBytes*3):                 0,
	} {
		for _, status := range []int{200, 202, 299} {
			check(t, fmt.Sprint("Reply of ", brief(body)), reply(e, two(), 3, status, body, 60), becomes(ended(e, 3, api.Ledger{Rejected: rejected, Delivered: 3 - rejected})))
		}
		check(t, "Reply 400 of "+brief(body), reply(e, two(), 3, 400, body, 60), becomes(ended(e, 3, api.Ledger{Never: 3})))
		if x := reply(e, two(), 3, 503, body, 60); x.Exporter.Ledger != e.Ledger || x.Why != api.OK {
			t.Errorf("Reply 503 of %s: %v", brief(body), x)
		}
	}
	none := lent(two(), "2", "")
	none.Flights = []api.Flight{flight(1, 0, true, 0, 0, 0), flight(2, 0, true, 0, 0, 0)}
	for _, status := range []int{200, 400} {
		for _, seq := range []uint64{1, 2} {
			check(t, "Reply to what has no items", reply(none, two(), seq, status, partial(t, 5), 60), becomes(ended(none, seq, api.Ledger{})))
		}
	}
}

// TestP184ReplyAgain has each side of the moment at which Total is over.
func TestP184ReplyAgain(t *testing.T) {
	e := underWay() // the wait is 200, and Total 650, since 20
	for now := uint64(20); now < 800; now++ {
		want := ended(e, 3, api.Ledger{Spent: 3})
		if now <= 470 {
			want = twin(e)
			want.Flights[1] = flight(3, 3, false, 2, 20, now+200)
		}
		check(t, fmt.Sprint("Reply 503 at ", now), reply(e, two(), 3, 503, partial(t, 1), now), becomes(want))
	}
	for _, tries := range []int{0, 3, 60, 1<<30 - 1, 1 << 30} {
		e := underWay()
		e.Flights[1].Retry.Tries = tries
		want := twin(e)
		want.Flights[1] = flight(3, 3, false, tries+1, 20, 30+min(uint64(100)<<min(tries, 9), 500))
		check(t, fmt.Sprint("Reply 503 behind ", tries), reply(e, rules(8, 4096, 2, 100, 500, 0), 3, 503, "", 30), becomes(want))
	}
}

// TestP184ReplyAgainAndAgain is tried till it is given up.
func TestP184ReplyAgainAndAgain(t *testing.T) {
	e := holding(two(), logs("a:1 2"), logs("b:3"))
	var at []uint64
	first := ""
	now := uint64(1000)
	for e.Ledger.Spent == 0 {
		x := send(e, with(8, 1), now)
		if x.Why == api.ErrUnknown {
			now++
			continue
		}
		if first == "" {
			first = x.Request
		}
		if x.Seq != 1 || x.Request != first || x.Why != api.OK {
			t.Fatalf("Send at %d: %v", now, x)
		}
		at = append(at, now)
		y := reply(x.Exporter, with(8, 1), 1, 503, "", now)
		if y.Why != api.OK {
			t.Fatalf("Reply at %d: %v", now, y)
		}
		e = y.Exporter
	}
	if !slices.Equal(at, []uint64{1000, 1100, 1300}) || e.Ledger != (api.Ledger{Spent: 2}) || len(e.Flights) > 0 || export.Held(e) != 1 {
		t.Errorf("sent at %v: %v", at, becomes(e))
	}
	if x := send(e, with(8, 1), now); x.Seq != 2 || x.Exporter.Flights[0] != flight(2, 1, true, 0, 1300, 0) {
		t.Errorf("Send behind that: %v", x)
	}
}

// TestP184ReplyFails has disks that fail at each step of an Ack: the reply is taken all the same, and the queue is as it says.
func TestP184ReplyFails(t *testing.T) {
	for _, file := range []int{1, 100, 4096} {
		for at := range 9 {
			for _, power := range []bool{false, true} {
				e := underWay()
				e.Queue.Log.Size = file
				e = failing(e, at, power)
				for status, count := range map[int]api.Ledger{200: {Delivered: 3}, 400: {Never: 3}} {
					check(t, fmt.Sprintf("Reply, Size %d, failing at %d, %v", file, at, power), reply(e, two(), 3, status, "", 60), becomes(ended(e, 3, count)))
				}
				check(t, "Reply that it is tried again", reply(e, two(), 3, 503, "", 471), becomes(ended(e, 3, api.Ledger{Spent: 3})))
				x := reply(e, two(), 3, 200, "", 60)
				if written := at >= 3 || at == 2 && file > 100; written != (len(x.Exporter.Queue.Entries) == 4) || export.Check(x.Exporter, two()) != api.OK {
					t.Errorf("Reply, Size %d, failing at %d, %v: %v", file, at, power, x)
				}
			}
		}
	}
	broken := underWay()
	broken.Queue.Log.Broken = true
	want := twin(broken)
	want.Flights = want.Flights[:1]
	want.Ledger.Delivered += 3
	check(t, "Reply to a broken one", reply(broken, two(), 3, 200, "", 60), becomes(want))
	again := twin(broken)
	again.Flights[1] = flight(3, 3, false, 2, 20, 260)
	check(t, "Reply 503 to a broken one", reply(broken, two(), 3, 503, "", 60), becomes(again))
}

// TestP184Gone has an acknowledged entry be gone from the disk, too.
func TestP184Gone(t *testing.T) {
	for _, status := range []int{200, 404} {
		x := reply(underWay(), two(), 3, status, "", 60)
		back := opened(x.Exporter.Queue.Log.Disk, two())
		for _, e := range []api.Exporter{x.Exporter, back.Exporter} {
			if slices.ContainsFunc(e.Queue.Entries, func(e api.Entry) bool { return e.Seq == 3 }) || len(e.Queue.Entries) != 4 {
				t.Errorf("Reply %d: %v", status, becomes(e))
			}
		}
		check(t, "Reply once more", reply(x.Exporter, two(), 3, status, "", 60), refused(api.ErrLease))
	}
}

func TestP184ReplyAnything(t *testing.T) {
	r := rand.New(rand.NewPCG(18, 4))
	had := map[api.Errno]int{}
	for range 8000 {
		by := anyRules(r)
		e := anyExporter(r, by)
		seq := r.Uint64N(9)
		if len(e.Flights) > 0 && r.IntN(3) > 0 {
			seq = pick(r, e.Flights...).Seq
		}
		status := pick(r, 200, 200, 202, 400, 500, 0, 429, 503, 503, r.IntN(700)-50)
		body := pick(r, "", partial(t, 1), partial(t, r.Int64N(6)), "\xff", "\x0a\x02\x08\x02")
		now := r.Uint64N(600)
		x, want := reply(e, by, seq, status, body, now), modelOf(e, by).reply(seq, status, body, now)
		check(t, fmt.Sprintf("Reply %d to %d at %d by %+v", status, seq, now, by), x, want)
		had[x.Why]++
	}
	if had[api.OK] < 500 || had[api.ErrLease] < 500 || had[api.ErrRange] < 50 {
		t.Errorf("had %v", had)
	}
}
