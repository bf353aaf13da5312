package front

import (
	"math"
	"testing"

	"penstock/api"
)

// TestP203Names has each error's name, and those of other numbers; most of these errors never come of a script.
func TestP203Names(t *testing.T) {
	for why, want := range map[api.Errno]string{
		api.OK: "ok", api.ErrNil: "nil", api.ErrRange: "range", api.ErrMany: "many", api.ErrLong: "long", api.ErrType: "type", api.ErrState: "state", api.ErrUnknown: "unknown",
		api.ErrFull: "full", api.ErrVarint: "varint", api.ErrWire: "wire", api.ErrDepth: "depth", api.ErrUtf: "utf", api.ErrHttp: "http", api.ErrMore: "more", api.ErrConf: "conf",
		api.ErrCycle: "cycle", api.ErrDown: "down", api.ErrDisk: "disk", api.ErrLease: "lease",
		-1: "?", 20: "?", 21: "?", 1000: "?", math.MaxInt: "?", math.MinInt: "?",
	} {
		if s := name(why); s != want {
			t.Errorf("the name of %d: %s, want %s", why, s, want)
		}
	}
}
