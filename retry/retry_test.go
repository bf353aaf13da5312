package retry_test

import (
	"math"
	"math/rand/v2"
	"runtime"
	"testing"

	"penstock/api"
	"penstock/retry"
)

func TestP171Verdict(t *testing.T) {
	again := map[int]int{0: 1, 429: 1, 502: 1, 503: 1, 504: 1}
	for status := -700; status < 70000; status++ {
		want := api.VerdictNever
		if status/100 == 2 {
			want = api.VerdictDone
		}
		if again[status] == 1 {
			want = api.VerdictAgain
		}
		if got := retry.Verdict(status); got != want {
			t.Errorf("Verdict of %d: %d, want %d", status, got, want)
		}
	}
	for _, status := range []int{math.MinInt, math.MaxInt, math.MinInt + 200, -1 << 32, 1 << 32, 1<<32 + 200, 1<<32 + 503, -200, -503, 1<<16 + 200} {
		if got := retry.Verdict(status); got != api.VerdictNever {
			t.Errorf("Verdict of %d: %d", status, got)
		}
	}
}

func TestP172Wait(t *testing.T) {
	for tries, want := range []uint64{100, 200, 400, 500, 500} {
		checkWait(t, rules(100, 500, 650), tries, want, api.OK)
	}
	for tries := range 54 {
		checkWait(t, rules(1, most, 0), tries, 1<<tries, api.OK)
	}
	for _, r := range rightRules() {
		for _, tries := range []int{0, 1, 2, 3, 9, 10, 51, 52, 53, 54, 55, 62, 63, 64, 65, 127, 128, 1000, 1 << 30, 1<<30 + 1, 1 << 31, 1 << 32, mostInt - 1, mostInt} {
			checkWait(t, r, tries, waited(r, tries), api.OK)
		}
		for _, tries := range []int{-1, -2, -53, -64, math.MinInt, math.MinInt + 1} {
			checkWait(t, r, tries, 0, api.ErrRange)
		}
	}
	for _, r := range wrongRules() {
		for _, tries := range []int{0, 1, 64, mostInt, -1, math.MinInt} {
			checkWait(t, r, tries, 0, api.ErrRange)
		}
	}
}

// TestP172Fail has each side of the moment at which Total is over.
func TestP172Fail(t *testing.T) {
	x := api.Retry{Tries: 2, Since: 1000, Next: 77}
	for _, r := range []api.RetryRules{rules(100, 500, 650), rules(100, 400, 650)} { // the wait is 400
		for now := uint64(1000); now <= 1250; now++ {
			checkFail(t, x, r, now, failed(x, now, 400), false, api.OK)
		}
		for now := uint64(1251); now <= 2000; now++ {
			checkFail(t, x, r, now, x, true, api.OK)
		}
	}
	for _, now := range []uint64{1000, 1251, 1 << 40, last - 1, last} { // without a Total it goes on and on
		checkFail(t, x, rules(100, 500, 0), now, failed(x, now, 400), false, api.OK)
	}
	checkFail(t, api.Retry{}, rules(1, 1, 1), 0, api.Retry{Tries: 1, Next: 1}, false, api.OK)
	checkFail(t, api.Retry{Next: 9}, rules(2, 2, 1), 0, api.Retry{Next: 9}, true, api.OK)
	checkFail(t, api.Retry{Next: mostNum}, rules(2, 2, 2), 0, api.Retry{Tries: 1, Next: 2}, false, api.OK)
}

func TestP172FailEdges(t *testing.T) {
	ends := rules(most, most, most)
	for _, since := range []uint64{0, 1, last - 1, last} {
		x := api.Retry{Tries: 1 << 30, Since: since}
		checkFail(t, x, ends, since, failed(x, since, most), false, api.OK)
		if since < last {
			checkFail(t, x, ends, since+1, x, true, api.OK)
		}
		checkFail(t, x, rules(1, 1, 0), last, failed(x, last, 1), false, api.OK)
	}
	long := api.Retry{Tries: 60}
	checkFail(t, long, rules(1, most, 1), last, long, true, api.OK)
	checkFail(t, long, rules(1, most, most), last, long, true, api.OK)
	checkFail(t, long, rules(1, most, 0), last, failed(long, last, most), false, api.OK)
	checkFail(t, api.Retry{Tries: 1<<30 - 1, Since: 4}, rules(1, 5, 0), 9, api.Retry{Tries: 1 << 30, Since: 4, Next: 14}, false, api.OK)
	checkFail(t, api.Retry{Tries: 1 << 30, Since: 4}, rules(1, 5, 0), 9, api.Retry{Tries: 1<<30 + 1, Since: 4, Next: 14}, false, api.OK)
}

func TestP172FailRefused(t *testing.T) {
	x := api.Retry{Tries: 1, Since: 10, Next: 5}
	for _, r := range rightRules() {
		for _, tries := range []int{-1, math.MinInt, tooOft, tooOft + 1, mostInt} {
			checkFail(t, api.Retry{Tries: tries, Since: 10}, r, 10, api.Retry{}, false, api.ErrRange)
		}
		for _, now := range []uint64{0, 9, last + 1, 1 << 63, mostNum} {
			checkFail(t, x, r, now, api.Retry{}, false, api.ErrRange)
		}
		for _, since := range []uint64{last + 1, mostNum} {
			for _, now := range []uint64{0, last, last + 1, mostNum} {
				checkFail(t, api.Retry{Since: since}, r, now, api.Retry{}, false, api.ErrRange)
			}
		}
	}
	for _, r := range wrongRules() {
		checkFail(t, x, r, 10, api.Retry{}, false, api.ErrRange)
		checkFail(t, api.Retry{}, r, 0, api.Retry{}, false, api.ErrRange)
	}
}

// someNumber is any, mostly at an edge.
func someNumber(r *rand.Rand) uint64 {
	n := uint64(1) << r.IntN(64)
	switch r.IntN(5) {
	case 0:
		return n - 1
	case 1:
		return n
	case 2:
		return n + 1
	case 3:
		return r.Uint64N(n)
	}
	return r.Uint64N(20)
}

func isRight(r api.RetryRules) bool {
	return r.First > 0 && r.First <= r.Most && r.Most <= most && r.Total <= most
}

// TestP172Anything holds each answer against a model.
func TestP172Anything(t *testing.T) {
	r := rand.New(rand.NewPCG(17, 2))
	had := map[string]int{}
	for range 300000 {
		by := rules(someNumber(r), someNumber(r), someNumber(r))
		if r.IntN(2) == 0 {
			by.Most = min(by.First+someNumber(r)%most, most)
		}
		x := api.Retry{Tries: int(someNumber(r) >> r.IntN(64)), Since: someNumber(r), Next: someNumber(r)}
		now := someNumber(r)
		if r.IntN(2) == 0 {
			now = x.Since + someNumber(r)>>r.IntN(64)
		}
		w := waited(by, max(x.Tries, 0))
		whyWait, why := api.OK, api.OK
		if !isRight(by) || x.Tries < 0 {
			w, whyWait = 0, api.ErrRange
		}
		checkWait(t, by, x.Tries, w, whyWait)
		want, is := failed(x, now, w), false
		switch {
		case whyWait != api.OK || x.Tries >= tooOft || now < x.Since || now > last:
			want, why = api.Retry{}, api.ErrRange
			had["refused"]++
		case by.Total > 0 && now-x.Since > by.Total-min(w, by.Total) || by.Total > 0 && w > by.Total:
			want, is = x, true
			had["given up"]++
		default:
			had["on"]++
		}
		checkFail(t, x, by, now, want, is, why)
	}
	if had["refused"] < 1000 || had["given up"] < 1000 || had["on"] < 1000 {
		t.Errorf("had %v", had)
	}
}

func TestP173LongerAndLonger(t *testing.T) {
	for _, r := range rightRules() {
		before := uint64(0)
		for tries := range 200 {
			w, why := retry.Wait(r, tries)
			if w < before || w < r.First || w > r.Most || why != api.OK {
				t.Errorf("Wait of %+v, %d: %d, error %d, behind %d", r, tries, w, why, before)
			}
			before = w
		}
	}
}

// untilGivenUp fails at once, and then at each Next; it tells how often it was tried, and when it was given up.
func untilGivenUp(t *testing.T, r api.RetryRules, since uint64) (uint64, uint64) {
	t.Helper()
	x := api.Retry{Since: since}
	now := since
	for tried := uint64(1); ; tried++ {
		next, is, why := retry.Fail(x, r, now)
		if why != api.OK {
			t.Fatalf("Fail of %+v, %+v at %d: error %d", x, r, now, why)
		}
		if is {
			return tried, now
		}
		if next.Next <= now || next.Tries != x.Tries+1 || next.Since != since {
			t.Fatalf("Fail of %+v at %d: %+v", x, now, next)
		}
		x, now = next, next.Next
	}
}

func TestP174InTheEnd(t *testing.T) {
	r := rand.New(rand.NewPCG(17, 4))
	for range 20000 {
		first := 1 + r.Uint64N(50)
		by := rules(first, first+r.Uint64N(300), 1+r.Uint64N(2000))
		since := someNumber(r) % (last - most)
		tried, at := untilGivenUp(t, by, since)
		if tried > by.Total/by.First+1 || at-since > by.Total {
			t.Errorf("%+v: tried %d times, given up behind %d", by, tried, at-since)
		}
	}
	for tries, by := range map[uint64]api.RetryRules{1: rules(7, 7, 6), 2: rules(7, 7, 7), 101: rules(1, 1, 100), 7: rules(1, most, 100), 3: rules(100, 500, 650), 53: rules(1, most, most-2), 54: rules(1, most, most-1)} {
		if tried, _ := untilGivenUp(t, by, 5); tried != tries {
			t.Errorf("%+v: tried %d times, want %d", by, tried, tries)
		}
	}
}

func TestP175On(t *testing.T) {
	r := rand.New(rand.NewPCG(17, 5))
	for range 20000 {
		first := 1 + someNumber(r)%most
		by := rules(first, min(first+someNumber(r)%most, most), 0)
		x := api.Retry{Tries: int(someNumber(r) % tooOft), Since: someNumber(r) % last}
		now := x.Since + someNumber(r)%(last-x.Since+1)
		got, is, why := retry.Fail(x, by, now)
		if got.Next <= now || got.Next-now > by.Most || is || why != api.OK {
			t.Errorf("Fail of %+v, %+v at %d: %+v, %v, error %d", x, by, now, got, is, why)
		}
	}
}

// TestP17Example is the chapter's.
func TestP17Example(t *testing.T) {
	r := rules(100, 500, 650)
	x, is, _ := retry.Fail(api.Retry{}, r, 0)
	if x != (api.Retry{Tries: 1, Next: 100}) || is {
		t.Errorf("Fail at 0: %+v, %v", x, is)
	}
	x, is, _ = retry.Fail(x, r, 100)
	if x != (api.Retry{Tries: 2, Next: 300}) || is {
		t.Errorf("Fail at 100: %+v, %v", x, is)
	}
	if y, is, why := retry.Fail(x, r, 300); y != x || !is || why != api.OK {
		t.Errorf("Fail at 300: %+v, %v, error %d", y, is, why)
	}
}

func TestP3AndP4AlwaysTheSame(t *testing.T) {
	before := runtime.NumGoroutine()
	for _, by := range append(rightRules(), wrongRules()...) {
		w, whyWait := retry.Wait(by, 5)
		x, is, why := retry.Fail(api.Retry{Tries: 3, Since: 4}, by, 9)
		for range 10 {
			checkWait(t, by, 5, w, whyWait)
			checkFail(t, api.Retry{Tries: 3, Since: 4}, by, 9, x, is, why)
		}
	}
	if n := runtime.NumGoroutine(); n > before {
		t.Errorf("%d goroutines are left", n-before)
	}
}
