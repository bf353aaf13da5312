package export_test

import (
	"fmt"
	"iter"
	"math/rand/v2"
	"slices"
	"testing"

	"penstock/api"
	"penstock/export"
	"penstock/pdata"
)

// life is an exporter's, on a disk that never fails, and what the tests know of it.
type life struct {
	rules    api.ExportRules
	exporter api.Exporter
	now      uint64
	next     int                 // the next item's name
	offered  []string            // all items, in order
	taken    map[uint64][]string // what each entry has
	sent     map[uint64]string   // each entry's request
	flying   []uint64
	done     map[uint64]int // what was answered for good
	order    []string       // items of requests that were answered 200, in order
	refuses  bool           // whether a backend may answer anything but 200
}

func begin(t *testing.T, r api.ExportRules, refuses bool) *life {
	t.Helper()
	x := opened(empty(), r)
	if x.Why != api.OK {
		t.Fatalf("Open: error %d", x.Why)
	}
	return &life{rules: r, exporter: x.Exporter, taken: map[uint64][]string{}, sent: map[uint64]string{}, done: map[uint64]int{}, refuses: refuses}
}

// take takes over an answer that is no error, and tells that it is as the model has it, that it is right, and that all is accounted for.
func (l *life) take(t *testing.T, name string, x, want answer) {
	t.Helper()
	check(t, name, x, want)
	if x.Why != api.OK {
		return
	}
	l.exporter = x.Exporter
	if why := export.Check(l.exporter, l.rules); why != api.OK {
		t.Fatalf("%s answers what is not right: %v", name, x)
	}
	if ledger, held := l.exporter.Ledger, export.Held(l.exporter); ledger.Offered != total(ledger)+held || ledger.Offered != uint64(len(l.offered)) || ledger.Disk != 0 {
		t.Fatalf("%s: %d were offered, %d are held: %v", name, len(l.offered), held, x)
	}
	for _, e := range l.exporter.Queue.Entries {
		if l.done[e.Seq] > 0 {
			t.Fatalf("%s: %d, which was answered for good, is there again", name, e.Seq)
		}
	}
}

func (l *life) model() *model { return modelOf(l.exporter, l.rules) }

func (l *life) offer(t *testing.T, r *rand.Rand) {
	t.Helper()
	d := api.Data{Signal: pick(r, signals()...)}
	for range r.IntN(4) {
		g := api.Group{Scope: pick(r, "a", "b")}
		for range pick(r, 0, 1, r.IntN(5)) {
			more := pick(r, 0, 0, 0, r.IntN(500), 20000, 40000, 70000)
			g.Items = append(g.Items, one(d.Signal, fmt.Sprintf("%d/%d", l.next, more)))
			l.offered = append(l.offered, fmt.Sprint(l.next))
			l.next++
		}
		d.Groups = append(d.Groups, g)
	}
	before := len(l.exporter.Queue.Entries)
	l.take(t, "Offer", offer(l.exporter, l.rules, d), l.model().offer(d))
	for _, e := range l.exporter.Queue.Entries[before:] {
		part, _ := read(e.Data[1:], api.Signal(e.Data[0]-'0'))
		l.taken[e.Seq] = names(part)
	}
}

func (l *life) send(t *testing.T) bool {
	t.Helper()
	x := send(l.exporter, l.rules, l.now)
	l.take(t, "Send", x, l.model().send(l.now))
	if x.Why != api.OK {
		return false
	}
	if first, is := l.sent[x.Seq]; is && first != x.Request || !slices.Equal(names(got(t, x.Request)), l.taken[x.Seq]) {
		t.Fatalf("Send of %d: %v, other bytes than before, or other items than were taken", x.Seq, x)
	}
	l.sent[x.Seq] = x.Request
	l.flying = append(l.flying, x.Seq)
	return true
}

func (l *life) reply(t *testing.T, r *rand.Rand) {
	t.Helper()
	if len(l.flying) == 0 {
		return
	}
	at := r.IntN(len(l.flying))
	seq := l.flying[at]
	l.flying = slices.Delete(l.flying, at, at+1)
	status, body := 200, ""
	if l.refuses {
		status, body = pick(r, 200, 200, 200, 503, 503, 0, 429, 400, 202), pick(r, "", "", "", partial(t, r.Int64N(6)))
	}
	if status == 200 {
		l.order = append(l.order, l.taken[seq]...)
	}
	x := reply(l.exporter, l.rules, seq, status, body, l.now)
	l.take(t, "Reply", x, l.model().reply(seq, status, body, l.now))
	if !slices.ContainsFunc(x.Exporter.Queue.Entries, func(e api.Entry) bool { return e.Seq == seq }) {
		l.done[seq]++
	}
}

func (l *life) crash(t *testing.T, r *rand.Rand) {
	t.Helper()
	keeps := []int{r.IntN(100), r.IntN(100)}
	l.take(t, "Crash", crash(l.exporter, l.rules, keeps...), l.model().crash(keeps))
	l.flying = nil
	for seq := range l.taken {
		is := slices.ContainsFunc(l.exporter.Queue.Entries, func(e api.Entry) bool { return e.Seq == seq })
		if is == (l.done[seq] > 0) {
			t.Fatalf("Crash: %d was answered for good %d times, is there: %v", seq, l.done[seq], is)
		}
	}
}

// some does any of what may happen.
func (l *life) some(t *testing.T, r *rand.Rand, crashes bool) {
	t.Helper()
	l.now += r.Uint64N(60)
	switch n := r.IntN(20); {
	case n < 6:
		l.offer(t, r)
	case n < 13:
		l.send(t)
	case n < 19 || !crashes:
		l.reply(t, r)
	default:
		l.crash(t, r)
	}
}

// drain has each request be answered 200, till there is none.
func (l *life) drain(t *testing.T, r *rand.Rand) {
	t.Helper()
	l.refuses = false
	for range 5000 {
		l.now += 100
		for l.send(t) {
		}
		if len(l.flying) == 0 && export.Held(l.exporter) == 0 {
			return
		}
		l.reply(t, r)
	}
	t.Fatalf("it has no end: %v", becomes(l.exporter))
}

// lives yields some that are under way.
func lives(t *testing.T, seed uint64, consumers int, refuses, crashes bool) iter.Seq2[*life, *rand.Rand] {
	t.Helper()
	r := rand.New(rand.NewPCG(18, seed))
	return func(yield func(*life, *rand.Rand) bool) {
		for range 40 {
			by := anyRules(r)
			by.Most += r.IntN(20)
			if consumers > 0 {
				by.Consumers = consumers
			}
			l := begin(t, by, refuses)
			for range 80 {
				l.some(t, r, crashes)
			}
			if !yield(l, r) {
				return
			}
		}
	}
}

// TestP187AccountedFor has all be accounted for behind each call, with backends that answer anything, and crashes.
func TestP187AccountedFor(t *testing.T) {
	var all api.Ledger
	for l := range lives(t, 7, 0, true, true) {
		x := l.exporter.Ledger
		all.Delivered += x.Delivered
		all.Full += x.Full
		all.Long += x.Long
		all.Never += x.Never
		all.Spent += x.Spent
		all.Rejected += x.Rejected
	}
	if min(all.Delivered, all.Full, all.Long, all.Never, all.Spent, all.Rejected) < 20 {
		t.Errorf("%+v", all)
	}
}

// TestP188InOrder has one consumer, and each request be answered 200.
func TestP188InOrder(t *testing.T) {
	had := 0
	for l, r := range lives(t, 8, 1, false, false) {
		l.drain(t, r)
		at := 0
		for _, name := range l.order { // what was not taken is left out
			for at < len(l.offered) && l.offered[at] != name {
				at++
			}
			if at == len(l.offered) {
				t.Fatalf("%s was sent twice, or behind its turn: %v", name, l.order)
			}
			at++
		}
		taken := 0
		for _, names := range l.taken {
			taken += len(names)
		}
		if len(l.order) != taken || l.exporter.Ledger.Delivered != uint64(taken) {
			t.Errorf("%d were taken, %d sent: %v", taken, len(l.order), becomes(l.exporter))
		}
		had += taken
	}
	if had < 1000 {
		t.Errorf("%d only were taken", had)
	}
}

// TestP189NotLost has crashes: what was taken, and not answered for good, is sent again behind them.
func TestP189NotLost(t *testing.T) {
	for l, r := range lives(t, 9, 0, true, true) {
		l.crash(t, r)
		var again []uint64
		for seq := range l.taken {
			if l.done[seq] == 0 {
				again = append(again, seq)
			}
		}
		slices.Sort(again)
		l.rules.Consumers = 1
		var sent []uint64
		for l.send(t) {
			sent = append(sent, l.flying...)
			l.reply200(t)
		}
		if !slices.Equal(sent, again) {
			t.Errorf("behind a crash %v were sent, want %v", sent, again)
		}
	}
}

// reply200 answers all that is under way.
func (l *life) reply200(t *testing.T) {
	t.Helper()
	for _, seq := range l.flying {
		l.take(t, "Reply", reply(l.exporter, l.rules, seq, 200, "", l.now), l.model().reply(seq, 200, "", l.now))
		l.done[seq]++
	}
	l.flying = nil
}

// TestP1810AtLast has each reply be 200 from some time on.
func TestP1810AtLast(t *testing.T) {
	for l, r := range lives(t, 10, 0, true, true) {
		l.drain(t, r)
		e := l.exporter
		if export.Held(e) != 0 || e.Ledger.Offered != total(e.Ledger) || len(e.Flights) > 0 || len(e.Queue.Entries) > 0 {
			t.Errorf("in the end: %v", becomes(e))
		}
		if x := crash(e, l.rules); export.Held(x.Exporter) != 0 || len(x.Exporter.Queue.Entries) > 0 {
			t.Errorf("behind a crash in the end: %v", x)
		}
	}
}

// TestP1810Parts has all that is sent be what was offered, item by item.
func TestP1810Parts(t *testing.T) {
	r := rand.New(rand.NewPCG(18, 11))
	for range 40 {
		by := rules(api.MaxItems, pick(r, 4096, api.MaxFile), 1, 10, 10, 0)
		d := someData(r, pick(r, signals()...))
		x := offer(api.Exporter{Queue: queueOf(by)}, by, d)
		var back []api.Data
		for x = send(x.Exporter, by, 1); x.Why == api.OK; x = send(x.Exporter, by, 1) {
			back = append(back, got(t, x.Request))
			x = reply(x.Exporter, by, x.Seq, 200, "", 2)
		}
		var short []bool
		for _, g := range d.Groups {
			for _, item := range g.Items {
				short = append(short, fits(api.Data{Signal: d.Signal, Groups: []api.Group{{Scope: g.Scope, Items: []api.Item{item}}}}))
			}
		}
		want, _ := pdata.Keep(d, short)
		var sent []string
		for _, part := range back {
			sent = append(sent, names(part)...)
		}
		if !slices.Equal(sent, names(want)) {
			t.Errorf("of %v were sent %v", told(d), sent)
		}
		if len(back) == 1 && !pdata.Same(back[0], want) {
			t.Errorf("of %v was sent %v", told(d), told(back[0]))
		}
	}
}
