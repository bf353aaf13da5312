package trace_test

import (
	"math"
	"math/rand/v2"
	"runtime"
	"strings"
	"testing"

	"penstock/api"
	"penstock/trace"
)

// checkReply tells what ReadReply says of s.
func checkReply(t *testing.T, name, s string, want api.Partial, wantWhy api.Errno) {
	t.Helper()
	p, why := trace.ReadReply(s)
	checkErr(t, "ReadReply of "+name, why, wantWhy)
	if p != want {
		t.Errorf("ReadReply of %s: %v, want %v", name, p, want)
	}
}

func checkWriteReply(t *testing.T, name string, p api.Partial, want string, wantWhy api.Errno) {
	t.Helper()
	s, why := trace.WriteReply(p)
	checkErr(t, "WriteReply of "+name, why, wantWhy)
	if s != want {
		t.Errorf("WriteReply of %s: %x, want %x", name, s, want)
	}
}

func TestP53AsBytes(t *testing.T) {
	long := strings.Repeat("é", api.MaxText/2)
	for name, x := range map[string]struct {
		p    api.Partial
		want string
	}{
		"nothing":               {api.Partial{}, ""},
		"some":                  {api.Partial{Rejected: 2, Message: "x"}, "\x0a\x05\x08\x02\x12\x01x"},
		"Rejected alone":        {api.Partial{Rejected: 300}, "\x0a\x03\x08\xac\x02"},
		"Message alone":         {api.Partial{Message: "é"}, "\x0a\x04\x12\x02\xc3\xa9"},
		"the greatest Rejected": {api.Partial{Rejected: math.MaxInt64}, "\x0a\x0a\x08\xff\xff\xff\xff\xff\xff\xff\xff\x7f"},
		"MaxText":               {api.Partial{Message: long}, "\x0a\x83\x20\x12\x80\x20" + long},
	} {
		checkWriteReply(t, name, x.p, x.want, api.OK)
		checkReply(t, name, x.want, x.p, api.OK)
	}
}

func TestP53WriteErrors(t *testing.T) {
	long := strings.Repeat("x", api.MaxText+1)
	for name, x := range map[string]struct {
		p    api.Partial
		want api.Errno
	}{
		"Rejected -1":                    {api.Partial{Rejected: -1}, api.ErrRange},
		"the least Rejected":             {api.Partial{Rejected: math.MinInt64}, api.ErrRange},
		"Rejected ahead of Message":      {api.Partial{Rejected: -1, Message: long + "\xff"}, api.ErrRange},
		"MaxText + 1":                    {api.Partial{Message: long}, api.ErrLong},
		"what is no UTF-8":               {api.Partial{Rejected: 1, Message: "\xff"}, api.ErrUtf},
		"long ahead of what is no UTF-8": {api.Partial{Message: long + "\xff"}, api.ErrLong},
	} {
		checkWriteReply(t, name, x.p, "", x.want)
	}
}

func TestP53Read(t *testing.T) {
	two := bytes(1, varint(1, 2)+bytes(2, "x"))
	for name, x := range map[string]struct {
		s    string
		want api.Partial
	}{
		"nothing in it":            {bytes(1, ""), api.Partial{}},
		"noughts that are there":   {bytes(1, varint(1, 0)+bytes(2, "")), api.Partial{}},
		"two messages":             {two + bytes(1, varint(1, 3)), api.Partial{Rejected: 3}},
		"the last one is empty":    {two + bytes(1, ""), api.Partial{}},
		"what is ahead is none":    {bytes(1, "\x0f") + two, api.Partial{Rejected: 2, Message: "x"}},
		"fields that come again":   {bytes(1, varint(1, math.MaxUint64)+bytes(2, "\xff")+varint(1, 2)+bytes(2, "x")), api.Partial{Rejected: 2, Message: "x"}},
		"others of the reply":      {fields(2, -1) + two + fields(1, 2) + fields(99, -1), api.Partial{Rejected: 2, Message: "x"}},
		"others of what is in it":  {bytes(1, varint(1, 2)+bytes(2, "x")+fields(1, 0)+fields(2, 2)+fields(3, -1)), api.Partial{Rejected: 2, Message: "x"}},
		"the greatest Rejected":    {bytes(1, varint(1, math.MaxInt64)), api.Partial{Rejected: math.MaxInt64}},
		"Message of MaxText bytes": {bytes(1, bytes(2, strings.Repeat("x", api.MaxText))), api.Partial{Message: strings.Repeat("x", api.MaxText)}},
	} {
		checkReply(t, name, x.s, x.want, api.OK)
	}
}

func TestP53ReadErrors(t *testing.T) {
	long := strings.Repeat("x", api.MaxText+1)
	for name, x := range map[string]struct {
		s    string
		want api.Errno
	}{
		"no varint":                      {"\x08", api.ErrVarint},
		"no message":                     {"\x0f", api.ErrWire},
		"MaxBytes + 1":                   {strings.Repeat("\xff", api.MaxBytes+1), api.ErrLong},
		"MaxFields + 1":                  {strings.Repeat("\x10\x01", api.MaxFields+1), api.ErrMany},
		"what is in it is no message":    {bytes(1, "\x0f"), api.ErrWire},
		"the last one is no message":     {bytes(1, varint(1, 1)) + bytes(1, "\x08"), api.ErrVarint},
		"the reply ahead of what is in":  {bytes(1, "\x0f") + "\x08", api.ErrVarint},
		"Rejected 2^63":                  {bytes(1, varint(1, 1<<63)), api.ErrRange},
		"the greatest number":            {bytes(1, varint(1, math.MaxUint64)), api.ErrRange},
		"Rejected ahead of Message":      {bytes(1, bytes(2, "\xff")+varint(1, 1<<63)), api.ErrRange},
		"Rejected ahead of one too long": {bytes(1, bytes(2, long)+varint(1, 1<<63)), api.ErrRange},
		"a message ahead of Rejected":    {bytes(1, varint(1, 1<<63)+"\x0f"), api.ErrWire},
		"MaxText + 1":                    {bytes(1, bytes(2, long)), api.ErrLong},
		"what is no UTF-8":               {bytes(1, varint(1, 1)+bytes(2, "\xff")), api.ErrUtf},
		"long ahead of what is no UTF-8": {bytes(1, bytes(2, long+"\xff")), api.ErrLong},
	} {
		checkReply(t, name, x.s, api.Partial{}, x.want)
	}
}

func TestP59Replies(t *testing.T) {
	r := rand.New(rand.NewPCG(5, 9))
	for range 2000 {
		p := api.Partial{Rejected: int64(few(r) >> 1), Message: someText(r)}
		s, why := trace.WriteReply(p)
		checkErr(t, "WriteReply", why, api.OK)
		checkReply(t, "what is written", s, p, api.OK)
	}
}

func TestP1AnyReply(t *testing.T) {
	r := rand.New(rand.NewPCG(5, 12))
	for range 20000 {
		b := make([]byte, r.IntN(12))
		for i := range b {
			b[i] = []byte{0x0a, 0x08, 0x12, 1, 2, 3, 0xff, byte(r.Uint32())}[r.IntN(8)]
		}
		p, why := trace.ReadReply(string(b))
		if why != api.OK && p != (api.Partial{}) || p.Rejected < 0 {
			t.Errorf("ReadReply of %x: %v beside error %d", b, p, why)
		}
	}
}

func TestP4NoGoroutines(t *testing.T) {
	before := runtime.NumGoroutine()
	for _, s := range signals() {
		written, _ := trace.Write(full(s))
		trace.Read(written, s)
		trace.Read(written[1:], s)
	}
	trace.ReadReply("\x0f")
	for range 1000 { // one that is joined may still be on its way out
		if runtime.NumGoroutine() <= before {
			return
		}
		runtime.Gosched()
	}
	t.Errorf("%d goroutines are left", runtime.NumGoroutine()-before)
}
