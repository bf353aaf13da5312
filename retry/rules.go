package retry

import "penstock/api"

const (
	mostWait  = 1 << 53
	mostTries = 1 << 30
	mostTime  = 1 << 62
	doublings = 53 // so many make mostWait at least of any First
)

func isRules(r api.RetryRules) bool {
	return r.First >= 1 && r.First <= r.Most && r.Most <= mostWait && r.Total <= mostWait
}

func isTried(x api.Retry) bool {
	return x.Tries >= 0 && x.Tries <= mostTries
}

// wait is that of right rules.
func wait(r api.RetryRules, tries int) uint64 {
	w := r.First
	for range min(tries, doublings) {
		w = min(2*w, r.Most)
	}
	return w
}
