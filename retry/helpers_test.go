package retry_test

import (
	"math"
	"math/big"
	"testing"

	"penstock/api"
	"penstock/retry"
)

const (
	most    = uint64(1) << 53 // of Most and Total
	last    = uint64(1) << 62 // of now
	tooOft  = 1<<30 + 1
	mostInt = math.MaxInt
	mostNum = uint64(math.MaxUint64)
)

func rules(first, most, total uint64) api.RetryRules {
	return api.RetryRules{First: first, Most: most, Total: total}
}

// wrongRules are not right, each for one reason, or for more.
func wrongRules() []api.RetryRules {
	return []api.RetryRules{
		{}, rules(0, 1, 1), rules(0, 500, 0), rules(0, 0, 9), rules(2, 1, 0), rules(501, 500, 650), rules(1, 0, 0),
		rules(1, most+1, 0), rules(most+1, most+1, 0), rules(most+1, most, 0), rules(1, mostNum, 0), rules(mostNum, mostNum, mostNum),
		rules(1, 1, most+1), rules(1, most, most+1), rules(1, 1, mostNum), rules(1, 1<<63, 0), rules(1, 1, 1<<63), rules(1<<63, 1, 0),
	}
}

func rightRules() []api.RetryRules {
	return []api.RetryRules{
		rules(100, 500, 650), rules(100, 500, 0), rules(1, 1, 0), rules(1, 1, 1), rules(1, most, 0), rules(1, most, most), rules(most, most, most), rules(most, most, 0),
		rules(most, most, 1), rules(most-1, most, 5), rules(3, most, most-1), rules(7, 7, 6), rules(5, 9, 100), rules(most/2, most, 0), rules(most/2+1, most, 0), rules(1, 1000, 1<<40),
	}
}

// waited is how long it is waited, by whole numbers without an end.
func waited(r api.RetryRules, tries int) uint64 {
	whole := new(big.Int).SetUint64(r.First)
	whole.Lsh(whole, uint(min(tries, 200)))
	if whole.Cmp(new(big.Int).SetUint64(r.Most)) > 0 {
		return r.Most
	}
	return whole.Uint64()
}

func checkWait(t *testing.T, r api.RetryRules, tries int, want uint64, wantWhy api.Errno) {
	t.Helper()
	if w, why := retry.Wait(r, tries); w != want || why != wantWhy {
		t.Errorf("Wait of %+v, %d: %d, error %d, want %d, error %d", r, tries, w, why, want, wantWhy)
	}
}

func checkFail(t *testing.T, x api.Retry, r api.RetryRules, now uint64, want api.Retry, wantIs bool, wantWhy api.Errno) {
	t.Helper()
	if got, is, why := retry.Fail(x, r, now); got != want || is != wantIs || why != wantWhy {
		t.Errorf("Fail of %+v, %+v at %d: %+v, %v, error %d\nwant %+v, %v, error %d", x, r, now, got, is, why, want, wantIs, wantWhy)
	}
}

// failed is x behind one more try, its wait being w.
func failed(x api.Retry, now, w uint64) api.Retry {
	return api.Retry{Tries: x.Tries + 1, Since: x.Since, Next: now + w}
}
