package server_test

import (
	"math"
	"reflect"
	"strconv"
	"strings"
	"testing"

	"penstock/api"
	"penstock/server"
	"penstock/trace"
)

// wrongConns is connections that are not right.
func wrongConns() map[string]api.Conn {
	long := strings.Repeat("x", api.MaxBuf+1)
	return map[string]api.Conn{
		"Buf is too long":                    {Buf: long},
		"Out is too long":                    {Out: long},
		"both are too long":                  {Buf: long, Out: long},
		"Out is too long of a closed one":    {Out: long, Closed: true},
		"Out is too long of a busy one":      {Out: long, Busy: true},
		"Closed with Buf":                    {Buf: "x", Closed: true},
		"Closed with Busy":                   {Closed: true, Busy: true},
		"Closed with Last":                   {Closed: true, Last: true},
		"Closed with Busy and Last":          {Closed: true, Busy: true, Last: true},
		"Last without Busy":                  {Last: true},
		"Last without Busy, with Buf, Out":   {Buf: "x", Out: "x", Last: true, Since: 9},
		"Closed with all":                    {Buf: "x", Out: "x", Closed: true, Busy: true, Last: true, Since: 9},
		"a request in Buf, Last but no Busy": {Buf: "GET /x HTTP/1.1\r\n\r\n", Last: true},
	}
}

func rightConns() map[string]api.Conn {
	most := strings.Repeat("x", api.MaxBuf)
	return map[string]api.Conn{
		"nothing":           {},
		"as much as may be": {Buf: most, Out: most, Since: math.MaxUint64},
		"busy":              {Buf: most, Out: most, Busy: true},
		"the last one":      {Buf: most, Out: most, Busy: true, Last: true},
		"closed":            {Closed: true, Since: 9},
		"closed with Out":   {Out: most, Closed: true},
	}
}

func wrongRules() []api.Rules {
	return []api.Rules{{MaxBody: -1}, {MaxBody: api.MaxBytes + 1}, {MaxBody: math.MinInt, Idle: 9}, {MaxBody: math.MaxInt}}
}

func TestP81Check(t *testing.T) {
	right := []api.Rules{{}, {MaxBody: 1}, {MaxBody: api.MaxBytes, Idle: math.MaxUint64}, {MaxBody: api.MaxBytes - 1}}
	for name, c := range rightConns() {
		for _, r := range right {
			if why := server.Check(c, r); why != api.OK {
				t.Errorf("Check of %s, %v: error %d", name, r, why)
			}
		}
		for _, r := range wrongRules() {
			if why := server.Check(c, r); why != api.ErrRange {
				t.Errorf("Check of %s, %v: error %d", name, r, why)
			}
		}
	}
	for name, c := range wrongConns() {
		for _, r := range right {
			if why := server.Check(c, r); why != api.ErrState {
				t.Errorf("Check of %s, %v: error %d", name, r, why)
			}
		}
		for _, r := range wrongRules() {
			if why := server.Check(c, r); why != api.ErrRange {
				t.Errorf("Check of %s, %v: error %d, where the rules are wrong, too", name, r, why)
			}
		}
	}
}

// checkAllRefuse tells that all calls have that error, whatever else they are handed.
func checkAllRefuse(t *testing.T, name string, c api.Conn, r api.Rules, want api.Errno) {
	t.Helper()
	for _, s := range []string{"", "x", strings.Repeat("x", api.MaxBuf+1)} {
		got, why := server.Feed(c, r, s, 5)
		checkConn(t, "Feed of "+name, got, why, api.Conn{}, want)
	}
	got, d, next, why := server.Look(c, r, 5)
	checkConn(t, "Look of "+name, got, why, api.Conn{}, want)
	if !same(d, api.Data{}) || next != api.NextNone {
		t.Errorf("Look of %s: %v, %d beside an error", name, d, next)
	}
	for _, status := range []int{200, 400, 7} {
		for _, p := range []api.Partial{{}, {Rejected: -1}, {Message: "\xff"}} {
			got, why = server.Answer(c, r, status, p, 5)
			checkConn(t, "Answer of "+name, got, why, api.Conn{}, want)
		}
	}
	for _, now := range []uint64{0, 5, math.MaxUint64} {
		got, why = server.Tick(c, r, now)
		checkConn(t, "Tick of "+name, got, why, api.Conn{}, want)
	}
	got, s, why := server.Take(c, r)
	checkConn(t, "Take of "+name, got, why, api.Conn{}, want)
	if s != "" {
		t.Errorf("Take of %s: %q beside an error", name, s)
	}
}

func TestP81AllAnswerIt(t *testing.T) {
	for name, c := range wrongConns() {
		checkAllRefuse(t, name, c, rules(), api.ErrState)
		checkAllRefuse(t, name, c, api.Rules{MaxBody: -1}, api.ErrRange)
	}
	for name, c := range rightConns() {
		for _, r := range wrongRules() {
			checkAllRefuse(t, name, c, r, api.ErrRange)
		}
	}
}

func TestP82Feed(t *testing.T) {
	most := strings.Repeat("b", api.MaxBuf)
	for name, x := range map[string]struct {
		c    api.Conn
		data string
		want api.Conn
		why  api.Errno
	}{
		"the first":                  {api.Conn{}, "x", api.Conn{Buf: "x", Since: 70}, api.OK},
		"more":                       {api.Conn{Buf: "a", Out: "o", Since: 5}, "\r\n\x00\xff", api.Conn{Buf: "a\r\n\x00\xff", Out: "o", Since: 70}, api.OK},
		"nothing":                    {api.Conn{Buf: "a", Out: "o", Since: 5}, "", api.Conn{Buf: "a", Out: "o", Since: 5}, api.OK},
		"a clock that went back":     {api.Conn{Buf: "a", Since: 71}, "b", api.Conn{Buf: "ab", Since: 70}, api.OK},
		"a busy one":                 {api.Conn{Buf: "a", Busy: true, Since: 5}, "b", api.Conn{Buf: "ab", Busy: true, Since: 70}, api.OK},
		"a last one":                 {api.Conn{Out: "o", Busy: true, Last: true}, "b", api.Conn{Buf: "b", Out: "o", Busy: true, Last: true, Since: 70}, api.OK},
		"much waits to go":           {api.Conn{Out: most}, "b", api.Conn{Buf: "b", Out: most, Since: 70}, api.OK},
		"a request":                  {api.Conn{}, "x\r\n", api.Conn{Buf: "x\r\n", Since: 70}, api.OK},
		"MaxBuf":                     {api.Conn{}, most, api.Conn{Buf: most, Since: 70}, api.OK},
		"MaxBuf with what was there": {api.Conn{Buf: "b"}, most[1:], api.Conn{Buf: most, Since: 70}, api.OK},
		"the last byte":              {api.Conn{Buf: most[1:]}, "b", api.Conn{Buf: most, Since: 70}, api.OK},
		"nothing where it is full":   {api.Conn{Buf: most, Since: 5}, "", api.Conn{Buf: most, Since: 5}, api.OK},
		"MaxBuf + 1":                 {api.Conn{}, most + "b", api.Conn{}, api.ErrFull},
		"one more with what is":      {api.Conn{Buf: "b"}, most, api.Conn{}, api.ErrFull},
		"one where it is full":       {api.Conn{Buf: most}, "b", api.Conn{}, api.ErrFull},
		"a closed one":               {api.Conn{Out: "o", Closed: true}, "b", api.Conn{}, api.ErrState},
		"nothing to a closed one":    {api.Conn{Closed: true}, "", api.Conn{}, api.ErrState},
		"too much to a closed one":   {api.Conn{Closed: true}, most + "b", api.Conn{}, api.ErrState},
	} {
		got, why := server.Feed(x.c, rules(), x.data, 70)
		checkConn(t, "Feed of "+name, got, why, x.want, x.why)
	}
}

func TestP83None(t *testing.T) {
	whole := "GET /x HTTP/1.1\r\n\r\n"
	long := strings.Repeat("o", api.MaxBytes)
	for name, c := range map[string]api.Conn{
		"nothing":                  {Since: 9},
		"a part":                   {Buf: whole[:len(whole)-1], Out: "o", Since: 9},
		"a byte":                   {Buf: "\x00"},
		"a body's part":            {Buf: strings.TrimSuffix(posted("/v1/logs", "ab"), "b")},
		"a closed one":             {Out: "o", Closed: true, Since: 9},
		"a busy one":               {Buf: whole, Busy: true, Since: 9},
		"a busy one, wrong":        {Buf: "x\r\n", Busy: true},
		"a last one":               {Buf: whole, Busy: true, Last: true},
		"much waits":               {Buf: whole, Out: long + "o", Since: 9},
		"much waits, wrong":        {Buf: "x\r\n", Out: long + "o"},
		"as much waits as may be":  {Buf: whole, Out: strings.Repeat("o", api.MaxBuf)},
		"data, where much waits":   {Buf: posted("/v1/logs", ""), Out: long + "o"},
		"much is there, none ends": {Buf: endless(api.MaxBuf - 1), Out: long},
		"full, and busy":           {Buf: endless(api.MaxBuf), Busy: true},
		"full, and much waits":     {Buf: endless(api.MaxBuf), Out: long + "o"},
	} {
		checkStays(t, name, c, rules())
	}
	checkLook(t, "MaxBytes that wait", api.Conn{Buf: whole, Out: long}, rules(), api.Conn{Out: long + replied(404, false, ""), Since: 70}, api.Data{}, api.NextReply)
	checkLook(t, "MaxBytes that wait, wrong", api.Conn{Buf: "x\r\n", Out: long, Since: 9}, rules(), api.Conn{Out: long + replied(400, true, ""), Closed: true, Since: 9}, api.Data{}, api.NextReply)
	checkLook(t, "MaxBytes that wait, data", api.Conn{Buf: posted("/v1/logs", ""), Out: long}, rules(), api.Conn{Out: long, Busy: true, Since: 70}, api.Data{Signal: api.SignalLog}, api.NextData)
}

// endless is n bytes of a request of which more must come: chunks that have little, but long lines.
func endless(n int) string {
	s := "POST /v1/logs HTTP/1.1\r\n" + typed + "\r\nTransfer-Encoding: chunked\r\n\r\n"
	chunk := "1;" + strings.Repeat("z", 4000) + "\r\nx\r\n"
	s += strings.Repeat(chunk, (n-len(s)-1)/len(chunk))
	return s + "1" + strings.Repeat(";", n-len(s)-1)
}

func TestP83Wrong(t *testing.T) {
	for _, s := range []string{"x\r\n", "\n", "\r\n", "GET /x HTTP/1.0\r\n", "GET /x HTTP/1.1\r\nx\r\n", asked("POST /v1/logs", "x", "Content-Length: 1"), "GET /x HTTP/1.1\r\nTransfer-Encoding: x\r\n\r\n", "x\r\n" + posted("/v1/logs", ""), "GET /x HTTP/1.1\r\nConnection: close\r\n\n"} {
		checkEnds(t, "what is no request", s, rules(), 400, 7)
	}
	heads := strings.Repeat("a: b\r\n", api.MaxHeads+1)
	for _, s := range []string{strings.Repeat("x", api.MaxLine+2), "GET /x HTTP/1.1\r\n" + heads, "GET /x HTTP/1.1\r\nContent-Length: 65537\r\n\r\n", "GET /x HTTP/1.1\r\nTransfer-Encoding: chunked\r\n\r\n10001\r\n", endless(api.MaxBuf), "GET /x HTTP/1.1\r\n" + heads + "\r\n" + posted("/v1/logs", "")} {
		checkEnds(t, "what is too long", s, rules(), 413, 7)
	}
	for _, r := range []api.Rules{{}, {MaxBody: 3}, {MaxBody: api.MaxBytes - 1}} {
		body := strings.Repeat("x", r.MaxBody)
		checkEnds(t, "a body one above MaxBody", asked("GET /x", body+"x"), r, 413, 7)
		checkEnds(t, "a body's length one above MaxBody", "GET /x HTTP/1.1\r\nContent-Length: "+strconv.Itoa(r.MaxBody+1)+"\r\n\r\n", r, 413, 7)
		checkLook(t, "a body of MaxBody", api.Conn{Buf: asked("GET /x", body)}, r, api.Conn{Out: replied(404, false, ""), Since: 70}, api.Data{}, api.NextReply)
	}
	// one that is whole, and has MaxBuf bytes
	s := endless(api.MaxBuf - 9)
	s = "GET /x HTTP/1.1\r\n" + s[strings.Index(s, typed):]
	end := "\r\nx\r\n0\r\n\r\n"
	s += strings.Repeat(";", api.MaxBuf-len(s)-len(end)) + end
	checkLook(t, "a request of MaxBuf bytes", api.Conn{Buf: s}, rules(), api.Conn{Out: replied(404, false, ""), Since: 70}, api.Data{}, api.NextReply)
	checkLook(t, "a request, and others up to MaxBuf", api.Conn{Buf: "GET /x HTTP/1.1\r\n\r\n" + s[19:]}, rules(), api.Conn{Buf: s[19:], Out: replied(404, false, ""), Since: 70}, api.Data{}, api.NextReply)
}

func TestP83Statuses(t *testing.T) {
	for _, target := range []string{"/", "*", "/v1", "/v1/", "/v1/log", "/v1/logss", "/v1/logs/", "/V1/logs", "/v1/Logs", "/v1/logs?x", "v1/logs", "//v1/logs", "http://h/v1/logs", "/v1/profiles", "/v1/trace", "/v1/metric", "/x"} {
		checkReply(t, "a target that is none", posted(target, ""), 404)
		checkReply(t, "a target that is none, and all else wrong", asked("GET "+target, "\x0f"), 404)
	}
	for target := range targets() {
		for _, method := range []string{"GET", "PUT", "post", "Post", "POSTS", "POS", "OPTIONS", "HEAD", "!"} {
			checkReply(t, "another method", asked(method+" "+target, "", typed), 405)
			checkReply(t, "another method, and all else wrong", asked(method+" "+target, "\x0f"), 405)
		}
		for _, value := range []string{"", "x", "application/json", "Application/x-protobuf", "application/X-Protobuf", "application/x-protobuf; charset=utf-8", "application/x-protobuf;", "application/x-protobu", "xapplication/x-protobuf", "application/x-protobuf, x"} {
			checkReply(t, "another type", asked("POST "+target, "", "Content-Type: "+value), 415)
			checkReply(t, "another type, and the body wrong", asked("POST "+target, "\x0f", "Content-Type: "+value), 415)
			checkReply(t, "another type first", asked("POST "+target, "", "content-type: "+value, typed), 415)
		}
		checkReply(t, "no type", asked("POST "+target, ""), 415)
		checkReply(t, "no type, and the body wrong", asked("POST "+target, "\x0f", "Content-Types: application/x-protobuf"), 415)
		for _, body := range []string{"\x0f", "\x08", "\xff", "\x0a\x02\x12\xff", strings.Repeat("\x08\x01", api.MaxFields+1)} {
			checkReply(t, "a body that is no message", posted(target, body), 400)
		}
	}
	_, span := some(api.SignalTrace, "x")
	checkReply(t, "a span as a log", posted("/v1/logs", span[:len(span)-1]), 400)
	checkReply(t, "a log as a span", posted("/v1/traces", "\x0a\x04\x12\x02\x12\x00"), 400)
}

func TestP83Data(t *testing.T) {
	for target, s := range targets() {
		d, body := some(s, "a", "b")
		whole := map[string]api.Data{body: d, "": {Signal: s}, "\x0a\x02\x12\x00": {Signal: s, Groups: make([]api.Group, 1)}}
		for body, want := range whole {
			for name, request := range map[string]string{
				"what is posted":       posted(target, body),
				"a type in other case": asked("POST "+target, body, "CONTENT-TYPE:\tapplication/x-protobuf "),
				"two types":            asked("POST "+target, body, typed, "Content-Type: x"),
				"chunks":               "POST " + target + " HTTP/1.1\r\nTransfer-encoding: Chunked\r\n" + typed + "\r\n\r\n" + inBytes(body) + "0\r\n\r\n",
			} {
				for _, behind := range []string{"", "x\r\n", request} {
					checkLook(t, name, api.Conn{Buf: request + behind, Out: "out", Since: 7}, rules(), api.Conn{Buf: behind, Out: "out", Busy: true, Since: 70}, want, api.NextData)
				}
			}
		}
	}
	checkLook(t, "no body, and no length", api.Conn{Buf: "POST /v1/logs HTTP/1.1\r\n" + typed + "\r\n\r\n", Since: 99}, api.Rules{}, api.Conn{Busy: true, Since: 70}, api.Data{Signal: api.SignalLog}, api.NextData)
	log, body := some(api.SignalLog, "a")
	checkLook(t, "a body of MaxBody", api.Conn{Buf: posted("/v1/logs", body)}, api.Rules{MaxBody: len(body)}, api.Conn{Busy: true, Since: 70}, log, api.NextData)
	checkEnds(t, "a body of MaxBody + 1", posted("/v1/logs", body), api.Rules{MaxBody: len(body) - 1}, 413, 7)
}

// inBytes is a body in chunks of a byte each.
func inBytes(s string) string {
	chunks := ""
	for i := range len(s) {
		chunks += "1\r\n" + s[i:i+1] + "\r\n"
	}
	return chunks
}

func TestP83Connection(t *testing.T) {
	for name, x := range map[string]struct {
		lines []string
		last  bool
	}{
		"close":                    {[]string{"Connection: close"}, true},
		"other case of the name":   {[]string{"connection: close"}, true},
		"all of the name great":    {[]string{"a: b", "CONNECTION:close"}, true},
		"blanks":                   {[]string{"Connection: \t close\t"}, true},
		"the first one":            {[]string{"Connection: close", "Connection: keep-alive"}, true},
		"the second one":           {[]string{"Connection: keep-alive", "Connection: close"}, false},
		"behind an empty one":      {[]string{"connection:", "Connection: close"}, false},
		"none":                     {nil, false},
		"other case of the value":  {[]string{"Connection: Close"}, false},
		"all of the value great":   {[]string{"Connection: CLOSE"}, false},
		"stays":                    {[]string{"Connection: keep-alive"}, false},
		"nothing":                  {[]string{"Connection:"}, false},
		"several":                  {[]string{"Connection: close, x"}, false},
		"several, the last":        {[]string{"Connection: x, close"}, false},
		"longer":                   {[]string{"Connection: closed"}, false},
		"of another name":          {[]string{"Proxy-Connection: close"}, false},
		"of another name, longer":  {[]string{"Connections: close"}, false},
		"of another name, shorter": {[]string{"Connectio: close"}, false},
	} {
		for status, request := range map[int]string{404: asked("GET /x", "", x.lines...), 405: asked("GET /v1/logs", "", x.lines...), 415: asked("POST /v1/logs", "", x.lines...), 400: posted("/v1/metrics", "\x0f", x.lines...)} {
			if x.last {
				checkEnds(t, name, request, rules(), status, 70)
				checkEnds(t, name+", more behind it", request+request, rules(), status, 70)
			} else {
				checkReply(t, name, request, status)
			}
		}
		for target, s := range targets() {
			request := posted(target, "", x.lines...)
			checkLook(t, name, api.Conn{Buf: request + "more", Out: "out"}, rules(), api.Conn{Buf: "more", Out: "out", Busy: true, Last: x.last, Since: 70}, api.Data{Signal: s}, api.NextData)
		}
	}
}

func TestP84Answer(t *testing.T) {
	for _, status := range []int{200, 400, 429, 503} {
		for _, p := range []api.Partial{{}, {Rejected: 2, Message: "x"}, {Rejected: math.MaxInt64}, {Message: strings.Repeat("x", api.MaxText)}} {
			body := ""
			if status == 200 {
				body, _ = trace.WriteReply(p)
			}
			checkAnswer(t, "one that stays", api.Conn{Buf: "buf", Out: "out", Busy: true, Since: 7}, status, p, api.Conn{Buf: "buf", Out: "out" + replied(status, false, body), Since: 70}, api.OK)
			checkAnswer(t, "one with nothing else", api.Conn{Busy: true, Since: 99}, status, p, api.Conn{Out: replied(status, false, body), Since: 70}, api.OK)
			checkAnswer(t, "the last one", api.Conn{Buf: "buf", Out: "out", Busy: true, Last: true, Since: 7}, status, p, api.Conn{Out: "out" + replied(status, true, body), Closed: true, Since: 70}, api.OK)
		}
	}
	c := api.Conn{Busy: true}
	checkAnswer(t, "2 that are not taken", c, 200, api.Partial{Rejected: 2, Message: "x"}, api.Conn{Out: "HTTP/1.1 200 OK\r\nContent-Type: application/x-protobuf\r\nContent-Length: 7\r\n\r\n\x0a\x05\x08\x02\x12\x01x", Since: 70}, api.OK)
	most := strings.Repeat("b", api.MaxBuf)
	checkAnswer(t, "a full Buf", api.Conn{Buf: most, Busy: true}, 429, api.Partial{}, api.Conn{Buf: most, Out: replied(429, false, ""), Since: 70}, api.OK)
	checkAnswer(t, "much that waits", api.Conn{Out: most[:2*api.MaxBytes], Busy: true}, 503, api.Partial{}, api.Conn{Out: most[:2*api.MaxBytes] + replied(503, false, ""), Since: 70}, api.OK)
}

func TestP84Errors(t *testing.T) {
	wrong := map[api.Errno]api.Partial{api.ErrRange: {Rejected: -1, Message: "\xff"}, api.ErrLong: {Message: strings.Repeat("\xff", api.MaxText+1)}, api.ErrUtf: {Rejected: 1, Message: "\xff"}}
	for want, p := range wrong {
		for _, status := range []int{200, 400, 429, 503} {
			checkAnswer(t, "a part that is none", api.Conn{Busy: true}, status, p, api.Conn{}, want)
			checkAnswer(t, "a part that is none, the last one", api.Conn{Buf: "b", Out: "o", Busy: true, Last: true}, status, p, api.Conn{}, want)
			checkAnswer(t, "a part that is none, nothing waiting", api.Conn{}, status, p, api.Conn{}, api.ErrState)
		}
		checkAnswer(t, "a part and a status that are none", api.Conn{Busy: true}, 404, p, api.Conn{}, api.ErrRange)
	}
	for status := -1; status <= 1000; status++ {
		if status == 200 || status == 400 || status == 429 || status == 503 {
			continue
		}
		checkAnswer(t, "status "+strconv.Itoa(status), api.Conn{Busy: true}, status, api.Partial{}, api.Conn{}, api.ErrRange)
	}
	for _, status := range []int{200, 400, 404, 429, 503, 0, -200, math.MaxInt, math.MinInt} {
		for _, c := range []api.Conn{{}, {Buf: posted("/v1/logs", "")}, {Out: "o", Closed: true}, {Out: "o"}} {
			checkAnswer(t, "nothing that waits", c, status, api.Partial{}, api.Conn{}, api.ErrState)
		}
	}
}

func TestP85Tick(t *testing.T) {
	for name, x := range map[string]struct {
		since, now, idle uint64
		goes             bool
	}{
		"ahead of Idle":            {50, 149, 100, false},
		"at Idle":                  {50, 150, 100, true},
		"behind Idle":              {50, 151, 100, true},
		"at once":                  {50, 50, 100, false},
		"the clock went back":      {50, 49, 100, false},
		"the clock went far back":  {math.MaxUint64, 0, 1, false},
		"back, Idle 0":             {50, 49, 0, false},
		"at once, Idle 0":          {50, 50, 0, true},
		"later, Idle 0":            {50, 51, 0, true},
		"at once from the start":   {0, 0, 0, true},
		"the greatest Idle":        {0, math.MaxUint64 - 1, math.MaxUint64, false},
		"at the greatest Idle":     {0, math.MaxUint64, math.MaxUint64, true},
		"at the greatest Idle, 1":  {1, math.MaxUint64, math.MaxUint64, false},
		"the greatest Since":       {math.MaxUint64, math.MaxUint64, 0, true},
		"the greatest Since, soon": {math.MaxUint64, math.MaxUint64, 1, false},
		"near the greatest Since":  {math.MaxUint64 - 9, math.MaxUint64, 10, false},
		"near the greatest, late":  {math.MaxUint64 - 10, math.MaxUint64, 10, true},
	} {
		for _, buf := range []string{"", "x", "x\r\n", posted("/v1/logs", ""), strings.Repeat("x", api.MaxBuf)} {
			for _, out := range []string{"", "out", strings.Repeat("o", api.MaxBytes+1)} {
				c := api.Conn{Buf: buf, Out: out, Since: x.since}
				want := c
				if x.goes {
					want = api.Conn{Out: out, Closed: true, Since: x.since}
				}
				if x.goes && buf != "" {
					want.Out += replied(408, true, "")
				}
				for _, most := range []int{0, api.MaxBytes} {
					got, why := server.Tick(c, api.Rules{MaxBody: most, Idle: x.idle}, x.now)
					checkConn(t, "Tick "+name, got, why, want, api.OK)
				}
				for _, c := range []api.Conn{{Buf: buf, Out: out, Busy: true, Since: x.since}, {Buf: buf, Out: out, Busy: true, Last: true, Since: x.since}, {Out: out, Closed: true, Since: x.since}} {
					got, why := server.Tick(c, api.Rules{Idle: x.idle}, x.now)
					checkConn(t, "Tick of one that is busy, or closed, "+name, got, why, c, api.OK)
				}
			}
		}
	}
}

func TestP85Take(t *testing.T) {
	most := strings.Repeat("o", api.MaxBuf)
	for _, out := range []string{"", "o", "HTTP\r\n\x00\xff", most} {
		for _, c := range []api.Conn{{Since: 9}, {Buf: "x\r\n", Since: 9}, {Buf: most, Busy: true}, {Buf: "b", Busy: true, Last: true, Since: 9}, {Closed: true, Since: 9}} {
			full := c
			full.Out = out
			got, s, why := server.Take(full, rules())
			checkConn(t, "Take", got, why, c, api.OK)
			if s != out {
				t.Errorf("Take: %d bytes, want %d", len(s), len(out))
			}
		}
	}
}

func TestP86NewMemory(t *testing.T) {
	for target, s := range targets() {
		want, body := some(s, "a", "b")
		c := api.Conn{Buf: posted(target, body) + posted(target, body)}
		behind, one, _, _ := server.Look(c, rules(), 1)
		_, two, _, _ := server.Look(c, rules(), 1)
		behind.Busy = false
		_, three, _, _ := server.Look(behind, rules(), 1)
		spoil(reflect.ValueOf(&one).Elem())
		_, four, _, _ := server.Look(c, rules(), 1)
		for _, d := range []api.Data{two, three, four} {
			if !same(d, want) {
				t.Errorf("Look at %s: answers share memory: %v", target, d)
			}
		}
		if c.Buf != posted(target, body)+posted(target, body) {
			t.Error("Look changes what is handed in")
		}
	}
}
