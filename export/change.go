package export

import (
	"cmp"
	"slices"

	"penstock/api"
	"penstock/fail"
	"penstock/pdata"
	"penstock/queue"
	"penstock/retry"
	"penstock/trace"
)

// changed is an exporter that is being changed, its lists being its own, and the rules by which that is done. Its methods panic with an error's number.
type changed struct {
	api.Exporter
	rules api.ExportRules
}

func begin(e api.Exporter, r api.ExportRules) *changed {
	e.Queue.Log.Disk.Files = slices.Clone(e.Queue.Log.Disk.Files)
	e.Queue.Entries = slices.Clone(e.Queue.Entries)
	e.Flights = slices.Clone(e.Flights)
	return &changed{e, r}
}

// change does what is handed in with e; of an error nothing is left but that.
func change(e api.Exporter, r api.ExportRules, do func(*changed)) (api.Exporter, api.Errno) {
	if why := Check(e, r); why != api.OK {
		return api.Exporter{}, why
	}
	x := begin(e, r)
	if why := fail.Caught(func() { do(x) }); why != api.OK {
		return api.Exporter{}, why
	}
	return x.Exporter, api.OK
}

func (x *changed) offer(d api.Data) {
	x.Ledger.Offered += count(d)
	for part, fits := range parts(d) {
		if fits {
			x.put(part)
		} else {
			x.Ledger.Long += count(part)
		}
	}
}

func (x *changed) put(d api.Data) {
	var why api.Errno
	x.Queue, _, why = queue.Put(x.Queue, written(d))
	switch {
	case why == api.OK:
	case why == api.ErrFull && !x.Queue.Log.Broken: // else the disk was full
		x.Ledger.Full += count(d)
	default:
		x.Ledger.Disk += count(d)
	}
}

func (x *changed) send(now uint64) api.Entry {
	at := slices.IndexFunc(x.Flights, func(f api.Flight) bool { return !f.Waiting && f.Retry.Next <= now })
	if at < 0 {
		at = x.lease(now)
	}
	x.Flights[at].Waiting = true
	i, _ := find(x.Queue.Entries, x.Flights[at].Seq)
	return x.Queue.Entries[i]
}

// lease is the place of a new flight.
func (x *changed) lease(now uint64) int {
	fail.Unless(len(x.Flights) < x.rules.Consumers, api.ErrUnknown)
	q, entry, why := queue.Lease(x.Queue)
	fail.Unless(why == api.OK, api.ErrUnknown) // of a broken log, too, since that hands nothing out
	x.Queue = q
	at, _ := findFlight(x.Flights, entry.Seq)
	f := api.Flight{Seq: entry.Seq, Items: items(entry.Data), Retry: api.Retry{Since: now}}
	x.Flights = slices.Insert(x.Flights, at, f)
	return at
}

// waiting is the place of the flight of that number, whose request waits for an answer.
func (x *changed) waiting(seq uint64) int {
	at, is := findFlight(x.Flights, seq)
	fail.Unless(is && x.Flights[at].Waiting, api.ErrLease)
	return at
}

func (x *changed) reply(at, status int, body string, now uint64) {
	all := uint64(x.Flights[at].Items)
	switch retry.Verdict(status) {
	case api.VerdictDone:
		some := min(rejected(body), all)
		x.Ledger.Rejected += some
		x.Ledger.Delivered += all - some
	case api.VerdictNever:
		x.Ledger.Never += all
	case api.VerdictAgain:
		if !x.isSpent(at, now) {
			return
		}
		x.Ledger.Spent += all
	}
	x.end(at)
}

// isSpent tells whether the flight is given up; else it does not wait any more, till it is sent again.
func (x *changed) isSpent(at int, now uint64) bool {
	f := &x.Flights[at]
	next, is, why := retry.Fail(f.Retry, x.rules.Retry, now)
	fail.On(why)
	f.Retry, f.Waiting = next, false
	return is
}

// end leaves out a flight that was answered for good.
func (x *changed) end(at int) {
	seq := x.Flights[at].Seq
	x.Flights = slices.Delete(x.Flights, at, at+1)
	x.Queue, _ = queue.Ack(x.Queue, seq) // if that fails, it is told by the queue
}

// rejected is how many items a backend says that it did not take.
func rejected(body string) uint64 {
	p, _ := trace.ReadReply(body) // none, if it is no reply
	return uint64(p.Rejected)
}

func count(d api.Data) uint64 {
	return uint64(pdata.Items(d))
}

// find is where the entry of that number is, if there is one.
func find(l []api.Entry, seq uint64) (int, bool) {
	return slices.BinarySearchFunc(l, seq, func(e api.Entry, seq uint64) int { return cmp.Compare(e.Seq, seq) })
}

// findFlight is where the flight of that number is, or would be.
func findFlight(l []api.Flight, seq uint64) (int, bool) {
	return slices.BinarySearchFunc(l, seq, func(f api.Flight, seq uint64) int { return cmp.Compare(f.Seq, seq) })
}
