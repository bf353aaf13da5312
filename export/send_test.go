package export_test

import (
	"fmt"
	"math"
	"math/rand/v2"
	"slices"
	"strings"
	"testing"

	"penstock/api"
	"penstock/export"
	"penstock/queue"
)

// leased is e with a flight more, of the entry of that number, whose request goes at now.
func leased(e api.Exporter, seq uint64, items int, now uint64) api.Exporter {
	e = twin(e)
	for i := range e.Queue.Entries {
		if e.Queue.Entries[i].Seq == seq {
			e.Queue.Entries[i].Leased = true
		}
	}
	at := 0
	for at < len(e.Flights) && e.Flights[at].Seq < seq {
		at++
	}
	e.Flights = slices.Insert(e.Flights, at, flight(seq, items, true, 0, now, 0))
	return e
}

func TestP183Send(t *testing.T) {
	r := with(8, 3)
	e := holding(r, data(api.SignalTrace, "a:1"), logs("b:2 3", "c:4"), data(api.SignalMetric, "d:5 6"))
	for i, target := range []string{"/v1/traces", "/v1/logs", "/v1/metrics"} {
		now := uint64(10 * i)
		entry := e.Queue.Entries[i]
		want := leased(e, entry.Seq, []int{1, 3, 2}[i], now)
		x := send(e, r, now)
		check(t, "Send of "+target, x, goes(want, entry.Seq, asked(target, entry.Data[1:])))
		e = x.Exporter
	}
	check(t, "Send with nothing left", send(e, r, 90), refused(api.ErrUnknown))
	check(t, "Send with nothing left of more consumers", send(e, with(8, 9), math.MaxUint64), refused(api.ErrUnknown))
}

func TestP183SendNothing(t *testing.T) {
	idle := changedBy(func(e *api.Exporter) {
		e.Flights = nil
		for i := range e.Queue.Entries {
			e.Queue.Entries[i].Leased = true
		}
	})
	full := changedBy(func(e *api.Exporter) { e.Flights[1].Waiting = true })
	for name, e := range map[string]api.Exporter{
		"an empty one":                      {Queue: queueOf(two())},
		"one of which all is handed out":    idle,
		"one with as many as consumers":     full,
		"one that is broken":                changedBy(func(e *api.Exporter) { e.Flights = e.Flights[:1]; e.Queue.Log.Broken = true }),
		"one that is broken, and empty":     changedBy(func(e *api.Exporter) { e.Flights, e.Queue.Entries = nil, nil; e.Queue.Log.Broken = true }),
		"one with as many, that is broken":  changedBy(func(e *api.Exporter) { e.Flights[1].Waiting = true; e.Queue.Log.Broken = true }),
		"one whose flight is sent too late": changedBy(func(e *api.Exporter) { e.Flights[1].Retry.Next = math.MaxUint64 }),
	} {
		for _, now := range []uint64{0, 49, 50, 1 << 62, math.MaxUint64 - 1} {
			check(t, "Send of "+name, send(e, two(), now), refused(api.ErrUnknown))
		}
	}
}

// TestP183SendAgain has a flight whose Next is not yet there, at it, and behind it.
func TestP183SendAgain(t *testing.T) {
	e := good()
	want := changedBy(func(e *api.Exporter) { e.Flights[1].Waiting = true })
	for now := range uint64(200) {
		if now < 50 {
			check(t, "Send ahead of Next", send(e, two(), now), refused(api.ErrUnknown))
		} else {
			check(t, "Send at Next or behind it", send(e, two(), now), goes(want, 3, asked("/v1/traces", e.Queue.Entries[2].Data[1:])))
		}
	}
	check(t, "Send in the end", send(e, two(), math.MaxUint64), goes(want, 3, asked("/v1/traces", e.Queue.Entries[2].Data[1:])))
	// it goes ahead of what is not handed out; ahead of its Next that goes
	r := with(8, 3)
	check(t, "Send at Next, with a consumer more", send(e, r, 50), goes(want, 3, asked("/v1/traces", e.Queue.Entries[2].Data[1:])))
	check(t, "Send ahead of Next, with a consumer more", send(e, r, 49), goes(leased(e, 2, 1, 49), 2, asked("/v1/logs", e.Queue.Entries[1].Data[1:])))
	for _, broken := range []func(*api.Exporter){
		func(e *api.Exporter) { e.Queue.Log.Broken = true },
		func(e *api.Exporter) { e.Queue.Log.Disk.Down, e.Queue.Log.Disk.Fault = true, 0 },
	} {
		e, want := good(), want
		broken(&e)
		broken(&want)
		check(t, "Send of a broken one", send(e, two(), 60), goes(want, 3, asked("/v1/traces", e.Queue.Entries[2].Data[1:])))
	}
}

// TestP183SendFirst has several flights that may go: the first one goes.
func TestP183SendFirst(t *testing.T) {
	r := with(9, 9)
	for when := range 1 << 8 { // which of four wait, and which of them are due
		e := lent(r, "2", "2", "2", "2", "2")
		e.Queue.Entries[4].Leased = false
		first := uint64(5)
		for i := range 4 {
			waiting, due := when>>i&1 == 1, when>>(4+i)&1 == 1
			f := flight(uint64(i+1), 0, waiting, 3, 5, 101)
			if due {
				f.Retry.Next = uint64(90 + i)
			}
			if due && !waiting && first == 5 {
				first = f.Seq
			}
			e.Flights = append(e.Flights, f)
		}
		want := twin(e)
		if first < 5 {
			want.Flights[first-1].Waiting = true
		} else {
			want = leased(e, 5, 0, 100)
		}
		check(t, fmt.Sprintf("Send of %08b", when), send(e, r, 100), goes(want, first, asked("/v1/logs", "")))
	}
}

// TestP183SendPlace has the new flight at its place by its number.
func TestP183SendPlace(t *testing.T) {
	r := with(9, 9)
	for free := range 5 {
		e := lent(r, "2", "2", "2", "2", "2")
		e.Queue.Entries[free].Leased = false
		for i := range 5 {
			if i != free && i != (free+2)%5 { // one is handed out to nobody
				e.Flights = append(e.Flights, flight(uint64(i+1), 0, true, 0, 0, 0))
			}
		}
		seq := uint64(free + 1)
		check(t, fmt.Sprintf("Send of %d", seq), send(e, r, 7), goes(leased(e, seq, 0, 7), seq, asked("/v1/logs", "")))
	}
	for consumers := range 9 { // fewer flights than consumers, and as many
		e := lent(r, "2", "2", "2", "2", "2", "2", "2", "2", "2")
		e.Queue.Entries[8].Leased = false
		for i := range consumers {
			e.Flights = append(e.Flights, flight(uint64(i+1), 0, true, 0, 0, 0))
		}
		check(t, fmt.Sprintf("Send of %d flights", consumers), send(e, with(9, consumers+1), 7), goes(leased(e, 9, 0, 7), 9, asked("/v1/logs", "")))
		if consumers > 0 {
			check(t, fmt.Sprintf("Send of %d flights of as many", consumers), send(e, with(9, consumers), 7), refused(api.ErrUnknown))
		}
	}
}

// TestP183SendAnyData has entries that are no data.
func TestP183SendAnyData(t *testing.T) {
	r := with(8, 3)
	logs2, spans := entryData(logs("a:1 2")), entryData(data(api.SignalTrace, "a:1"))
	most := strings.Repeat("x", api.MaxBytes-1)
	for s, want := range map[string]struct {
		items        int
		target, body string
	}{
		"":                    {0, "/", ""},
		"1":                   {0, "/v1/traces", ""},
		"2":                   {0, "/v1/logs", ""},
		"3":                   {0, "/v1/metrics", ""},
		"0":                   {0, "/", ""},
		"4":                   {0, "/", ""},
		"x":                   {0, "/", ""},
		"\x01":                {0, "/", ""},
		"\x02" + logs2[1:]:    {0, "/", logs2[1:]},
		"0" + logs2[1:]:       {0, "/", logs2[1:]},
		"4" + logs2[1:]:       {0, "/", logs2[1:]},
		"P" + logs2:           {0, "/", logs2},
		logs2[1:]:             {0, "/", logs2[2:]},
		"1" + logs2[1:]:       {0, "/v1/traces", logs2[1:]}, // log records are no spans
		"2" + spans[1:]:       {0, "/v1/logs", spans[1:]},
		"22" + logs2[1:]:      {0, "/v1/logs", "2" + logs2[1:]},
		logs2:                 {2, "/v1/logs", logs2[1:]},
		spans:                 {1, "/v1/traces", spans[1:]},
		logs2 + "\xff":        {0, "/v1/logs", logs2[1:] + "\xff"},
		logs2[:len(logs2)-1]:  {0, "/v1/logs", logs2[1 : len(logs2)-1]},
		logs2 + logs2[1:]:     {4, "/v1/logs", logs2[1:] + logs2[1:]},
		"2\x0a\x02\x12\x00":   {0, "/v1/logs", "\x0a\x02\x12\x00"},
		"2\x0a\x04\x12\x02\n": {0, "/v1/logs", "\x0a\x04\x12\x02\n"},
		"3\x00":               {0, "/v1/metrics", "\x00"},
		most:                  {0, "/", most[1:]},
		"2" + most[1:]:        {0, "/v1/logs", most[1:]},
	} {
		e := api.Exporter{Queue: queueOf(r, s)}
		x := send(e, r, 7)
		check(t, "Send of "+brief(s), x, goes(leased(e, 1, want.items, 7), 1, asked(want.target, want.body)))
		if export.Check(x.Exporter, r) != api.OK || export.Held(x.Exporter) != uint64(want.items) {
			t.Errorf("Send of %s: %v", brief(s), x)
		}
		again := x.Exporter
		again.Flights = []api.Flight{flight(1, want.items, false, 1, 7, 8)}
		check(t, "Send of "+brief(s)+" once more", send(again, r, 8), goes(changedFlight(again, func(f *api.Flight) { f.Waiting = true }), 1, x.Request))
	}
}

// changedFlight is e with its first flight changed.
func changedFlight(e api.Exporter, change func(*api.Flight)) api.Exporter {
	e = twin(e)
	change(&e.Flights[0])
	return e
}

// anyExporter is made by hand, and is right, but for some.
func anyExporter(r *rand.Rand, by api.ExportRules) api.Exporter {
	texts := []string{"", "1", "2", "3", "4", "2\xff", entryData(logs("a:1 2", "b:3")), entryData(data(api.SignalTrace, "a:1")), entryData(data(api.SignalMetric, "a:1 2 3 4"))}
	big := by
	big.Most = api.MaxItems
	q := queueOf(big)
	for range r.IntN(7) {
		q, _, _ = queue.Put(q, pick(r, texts...))
		if r.IntN(4) == 0 { // so that numbers aren't in a row
			q, _, _ = queue.Put(q, "")
			q.Entries = q.Entries[:len(q.Entries)-1]
		}
	}
	q.Most = by.Most
	e := api.Exporter{Queue: q, Ledger: api.Ledger{Offered: r.Uint64N(9), Delivered: r.Uint64N(9)}}
	for i := range q.Entries {
		q.Entries[i].Leased = r.IntN(2) == 0
		if q.Entries[i].Leased && r.IntN(3) > 0 && len(e.Flights) < by.Consumers {
			tries := pick(r, 0, 1, 2, 3, 9, 1<<30-1, 1<<30)
			e.Flights = append(e.Flights, flight(q.Entries[i].Seq, itemsOf(q.Entries[i].Data), r.IntN(2) == 0, tries, r.Uint64N(300), r.Uint64N(300)))
		}
	}
	e.Queue.Log.Broken = r.IntN(9) == 0
	return failing(e, r.IntN(9)-3, r.IntN(2) == 0)
}

// anyRules are right.
func anyRules(r *rand.Rand) api.ExportRules {
	first := 1 + r.Uint64N(50)
	return rules(1+r.IntN(8), pick(r, 1, 100, 4096, api.MaxFile), 1+r.IntN(4), first, first+r.Uint64N(200), pick(r, 0, r.Uint64N(400)))
}

func TestP183SendAnything(t *testing.T) {
	r := rand.New(rand.NewPCG(18, 3))
	had := map[string]int{}
	for range 6000 {
		by := anyRules(r)
		e := anyExporter(r, by)
		now := r.Uint64N(400)
		x, want := send(e, by, now), modelOf(e, by).send(now)
		check(t, fmt.Sprintf("Send at %d by %+v", now, by), x, want)
		switch {
		case x.Why != api.OK:
			had["nothing"]++
		case len(x.Exporter.Flights) == len(e.Flights):
			had["again"]++
		default:
			had["new"]++
		}
	}
	if had["nothing"] < 500 || had["again"] < 500 || had["new"] < 500 {
		t.Errorf("had %v", had)
	}
}
