package message_test

import (
	"slices"
	"strings"
	"testing"

	"penstock/api"
	"penstock/fail"
	"penstock/message"
	"penstock/rows"
)

// told is a message of fields that come again, of several wires.
func told() string {
	return message.Written(func(r rows.Row) {
		r.Number(1, api.WireVarint, 300)
		r.Number(2, api.WireEight, 5)
		r.Bytes(1, "a")
		r.Number(3, api.WireEight, 6)
		r.Number(1, api.WireVarint, 0)
		r.Bytes(1, "")
		r.Always(4, func(r rows.Row) { r.Number(1, api.WireVarint, 7) })
	})
}

func TestWritten(t *testing.T) {
	if s := told(); s != "\x08\xac\x02\x11\x05\x00\x00\x00\x00\x00\x00\x00\x0a\x01a\x19\x06\x00\x00\x00\x00\x00\x00\x00\x08\x00\x0a\x00\x22\x02\x08\x07" {
		t.Errorf("Written: %x", s)
	}
	packed := message.Written(func(r rows.Row) {
		r.Some(1, func(rows.Row) {})
		r.Some(2, func(r rows.Row) {
			r.Bare(api.WireVarint, 300)
			r.Bare(api.WireEight, 1<<56+2)
		})
		r.Always(3, func(rows.Row) {})
	})
	if packed != "\x12\x0a\xac\x02\x02\x00\x00\x00\x00\x00\x00\x01\x1a\x00" {
		t.Errorf("Written of packed lists: %x", packed)
	}
	for want, what := range map[api.Errno]func(rows.Row){
		api.ErrType:  func(r rows.Row) { r.Pair(1, api.Pair{Value: api.Value{Kind: api.KindCount}}) },
		api.ErrUtf:   func(r rows.Row) { r.Value(1, api.Value{Kind: api.KindText, S: "\xff"}) },
		api.ErrRange: func(r rows.Row) { r.Number(0, api.WireVarint, 1) },
		api.ErrLong:  func(r rows.Row) { r.Bytes(1, strings.Repeat("x", api.MaxBytes)) },
	} {
		if why := fail.Caught(func() { message.Written(what) }); why != want {
			t.Errorf("Written: error %d, want %d", why, want)
		}
	}
}

func TestReader(t *testing.T) {
	r := message.Read(told())
	if r.Varint(1) != 0 || r.Varint(2) != 0 || r.Eight(2) != 5 || r.Eight(1) != 0 || r.Bytes(1) != "" || r.Bytes(9) != "" {
		t.Error("Varint, Eight, Bytes are not those of the last fields")
	}
	if !slices.Equal(r.All(1), []string{"a", ""}) || len(r.All(2)) != 0 || len(r.Of(1)) != 4 || r.Of(1)[0].N != 300 {
		t.Error("All, Of:", r.All(1), r.Of(1))
	}
	if f, is := r.Last(api.WireEight, 3, 2); f.N != 6 || !is {
		t.Error("Last of two numbers:", f, is)
	}
	if f, is := r.Last(api.WireEight, 2); f.N != 5 || !is {
		t.Error("Last of one number:", f, is)
	}
	if f, is := r.Last(api.WireEight, 1, 4); is {
		t.Error("Last of other numbers:", f)
	}
	if r.Inner(4).Varint(1) != 7 || len(r.Inner(9).Of(1)) != 0 {
		t.Error("Inner is not the last field's message")
	}
	for s, want := range map[string]api.Errno{"\x0f": api.ErrWire, "\x08": api.ErrVarint, "": api.OK} {
		if why := fail.Caught(func() { message.Read(s) }); why != want {
			t.Errorf("Read of %x: error %d, want %d", s, why, want)
		}
	}
}

func TestBare(t *testing.T) {
	for s, x := range map[string]struct {
		w    api.Wire
		n    uint64
		size int
		why  api.Errno
	}{
		"\xac\x02\x01":                         {api.WireVarint, 300, 2, api.OK},
		"\xac":                                 {api.WireVarint, 0, 0, api.ErrVarint},
		"\x02\x00\x00\x00\x00\x00\x00\x01\x09": {api.WireEight, 1<<56 + 2, 8, api.OK},
		"\x02\x00\x00\x00\x00\x00\x00":         {api.WireEight, 0, 0, api.ErrWire},
	} {
		var n uint64
		size := 0
		why := fail.Caught(func() { n, size = message.Bare(s, x.w) })
		if n != x.n || size != x.size || why != x.why {
			t.Errorf("Bare of %x: %d of %d bytes, error %d", s, n, size, why)
		}
	}
}
