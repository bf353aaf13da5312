package rows_test

import (
	"math"
	"slices"
	"strconv"
	"testing"

	"penstock/api"
	"penstock/rows"
)

// heard is a sink that keeps what it is told, a line a field.
type heard struct{ lines []string }

func (h *heard) say(num int, what string) {
	h.lines = append(h.lines, strconv.Itoa(num)+" "+what)
}

func (h *heard) Number(num int, w api.Wire, n uint64) {
	h.say(num, []string{"varint ", "eight "}[w]+strconv.FormatUint(n, 10))
}
func (h *heard) Bytes(num int, s string)    { h.say(num, "bytes "+s) }
func (h *heard) Bare(w api.Wire, n uint64)  { h.Number(0, w, n) }
func (h *heard) Pair(num int, p api.Pair)   { h.say(num, "pair "+p.Key) }
func (h *heard) Value(num int, v api.Value) { h.say(num, "value "+v.S) }
func (h *heard) Inner(num int, always bool, what func(rows.Sink)) {
	h.say(num, "inner "+strconv.FormatBool(always))
	what(h)
	h.say(num, "end")
}

func checkHeard(t *testing.T, name string, tell func(rows.Row), want ...string) {
	t.Helper()
	var h heard
	tell(rows.Row{Sink: &h})
	if !slices.Equal(h.lines, want) {
		t.Errorf("%s: %q, want %q", name, h.lines, want)
	}
}

func TestZeroIsNotTold(t *testing.T) {
	checkHeard(t, "noughts", func(r rows.Row) {
		r.Varint(1, 0)
		r.Eight(2, 0)
		r.Float(3, 0)
		r.Zig(4, 0)
		r.Text(5, "")
		r.Pairs(6, nil)
	})
	checkHeard(t, "others", func(r rows.Row) {
		r.Varint(1, 1)
		r.Eight(2, 2)
		r.Float(3, math.Copysign(0, -1))
		r.Zig(4, -1)
		r.Text(5, "x")
		r.Pairs(6, []api.Pair{{Key: "a"}, {}})
	}, "1 varint 1", "2 eight 2", "3 eight 9223372036854775808", "4 varint 1", "5 bytes x", "6 pair a", "6 pair ")
	checkHeard(t, "what is nested", func(r rows.Row) {
		r.Some(1, func(r rows.Row) { r.Varint(2, 3) })
		r.Always(4, func(rows.Row) {})
	}, "1 inner false", "2 varint 3", "1 end", "4 inner true", "4 end")
}

func TestRequest(t *testing.T) {
	x := api.Item{Time: 1, Kind: 2, Name: "n", Body: api.Value{Kind: api.KindText, S: "b"}, Attrs: []api.Pair{{Key: "a"}}, Trace: "t", Span: "s", Start: 3}
	d := api.Data{Signal: api.SignalLog, Groups: []api.Group{{Scope: "c", Items: []api.Item{x, {}}}}}
	log := []string{"1 eight 1", "2 varint 2", "3 bytes n", "5 value b", "6 pair a", "9 bytes t", "10 bytes s", "11 eight 3"}
	checkHeard(t, "Item", func(r rows.Row) { r.Item(x, api.SignalLog) }, log...)
	checkHeard(t, "Request", func(r rows.Row) { r.Request(d) }, slices.Concat([]string{"1 inner true", "1 inner false", "1 end", "2 inner true", "1 inner false", "1 bytes c", "1 end", "2 inner true"}, log,
		[]string{"2 end", "2 inner true", "2 end", "2 end", "1 end"})...)
}
