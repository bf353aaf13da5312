package fail_test

import (
	"testing"

	"penstock/api"
	"penstock/fail"
)

func TestCaught(t *testing.T) {
	for why := api.OK; why <= api.ErrLease; why++ {
		behind := false
		got := fail.Caught(func() {
			fail.Unless(true, api.ErrLease)
			fail.On(api.OK)
			fail.On(why)
			behind = true
		})
		if got != why || behind != (why == api.OK) {
			t.Errorf("Caught of On: error %d, want %d, done to its end: %v", got, why, behind)
		}
		if why == api.OK {
			continue
		}
		if got := fail.Caught(func() { fail.Unless(false, why) }); got != why {
			t.Errorf("Caught of Unless: error %d, want %d", got, why)
		}
	}
}

func TestCaughtInAnother(t *testing.T) {
	inner := api.OK
	outer := fail.Caught(func() {
		inner = fail.Caught(func() { fail.On(api.ErrUtf) })
		fail.On(api.ErrLong)
	})
	if inner != api.ErrUtf || outer != api.ErrLong {
		t.Errorf("Caught: error %d within, error %d around it", inner, outer)
	}
}

func TestFaultsOfTheProgramGoOn(t *testing.T) {
	defer func() {
		if x := recover(); x != "a fault" {
			t.Errorf("recovered %v", x)
		}
	}()
	fail.Caught(func() { panic("a fault") })
}
