package http_test

import (
	"math"
	"slices"
	"strconv"
	"strings"
	"testing"

	"penstock/api"
	"penstock/http"
)

func checkWriteRequest(t *testing.T, r api.Request, want string, wantWhy api.Errno) {
	t.Helper()
	s, why := http.WriteRequest(r)
	checkWritten(t, "request "+short(r.Method+" "+r.Target), s, why, want, wantWhy)
}

func TestP71WriteRequest(t *testing.T) {
	for want, r := range map[string]api.Request{
		"POST /v1/logs HTTP/1.1\r\nContent-Length: 2\r\n\r\nhi":                                     {Method: "POST", Target: "/v1/logs", Body: "hi"},
		"G * HTTP/1.1\r\nContent-Length: 0\r\n\r\n":                                                 {Method: "G", Target: "*"},
		"GET / HTTP/1.1\r\nHost: backend\r\na: \r\nContent-Length: 0\r\n\r\n":                       {Method: "GET", Target: "/", Heads: heads(head("Host", "backend"), head("a", ""))},
		"x!~ !~ HTTP/1.1\r\nB: a \t b\r\nB: é\xff\r\nContent-Length: 10\r\n\r\n\x00\r\n\xff56789\n": {Method: "x!~", Target: "!~", Heads: heads(head("B", "a \t b"), head("B", "é\xff")), Body: "\x00\r\n\xff56789\n"},
	} {
		checkWriteRequest(t, r, want, api.OK)
	}
}

func TestP71WriteResponse(t *testing.T) {
	reasons := map[int]string{200: "OK", 400: "Bad Request", 404: "Not Found", 405: "Method Not Allowed", 408: "Request Timeout", 413: "Content Too Large", 415: "Unsupported Media Type", 429: "Too Many Requests", 503: "Service Unavailable"}
	for status := 100; status <= 599; status++ {
		reason, is := reasons[status]
		if !is {
			reason = "Other"
		}
		first := "HTTP/1.1 " + strconv.Itoa(status) + " " + reason + "\r\n"
		s, why := http.WriteResponse(api.Response{Status: status})
		checkWritten(t, "status "+strconv.Itoa(status), s, why, first+"Content-Length: 0\r\n\r\n", api.OK)
		s, why = http.WriteResponse(api.Response{Status: status, Heads: heads(head("b", "1"), head("a", "2")), Body: "body"})
		checkWritten(t, "status "+strconv.Itoa(status), s, why, first+"b: 1\r\na: 2\r\nContent-Length: 4\r\n\r\nbody", api.OK)
	}
	for _, status := range []int{99, 600, 0, -1, -200, 20, 2000, math.MaxInt, math.MinInt} {
		s, why := http.WriteResponse(api.Response{Status: status})
		checkWritten(t, "status "+strconv.Itoa(status), s, why, "", api.ErrHttp)
	}
}

// whyOf is ErrHttp, unless it is right.
func whyOf(right bool) api.Errno {
	if right {
		return api.OK
	}
	return api.ErrHttp
}

// places is a byte at each place of a text.
func places(b string) []string { return []string{b, b + "ac", "a" + b + "c", "ac" + b} }

func TestP71WriteBytes(t *testing.T) {
	for i := range 256 {
		b := string([]byte{byte(i)})
		isToken := strings.Contains(tokens, b)
		isTarget := i >= 0x21 && i <= 0x7e
		isValue := i == 9 || i >= 32 && i != 127
		for at, s := range places(b) {
			_, why := http.WriteRequest(api.Request{Method: s, Target: "/"})
			if why != whyOf(isToken) {
				t.Errorf("WriteRequest of method %q: error %d", s, why)
			}
			_, why = http.WriteRequest(api.Request{Method: "G", Target: s})
			if why != whyOf(isTarget) {
				t.Errorf("WriteRequest of target %q: error %d", s, why)
			}
			for _, f := range forms() {
				if _, why := f.write(heads(head(s, "v")), ""); why != whyOf(isToken) {
					t.Errorf("%s: write of the name %q: error %d", f.name, s, why)
				}
				isBlank := i == 9 || i == 32
				if _, why := f.write(heads(head("n", s)), ""); why != whyOf(isValue && (at == 2 || !isBlank)) {
					t.Errorf("%s: write of the value %q: error %d", f.name, s, why)
				}
			}
		}
	}
	for _, s := range []string{"é", "\u0130", "\u017f", "\u212a", "\u200b"} {
		checkWriteRequest(t, api.Request{Method: s, Target: "/"}, "", api.ErrHttp)
		checkWriteRequest(t, api.Request{Method: "G", Target: "/" + s}, "", api.ErrHttp)
		for _, f := range forms() {
			f.checkWrite(t, "a name", heads(head(s, "")), "", "", api.ErrHttp)
			f.checkWrite(t, "a value", heads(head("a", s)), "", f.with("a: "+s, "Content-Length: 0"), api.OK)
		}
	}
}

func TestP71WriteWrong(t *testing.T) {
	for _, r := range []api.Request{{}, {Method: "GET"}, {Target: "/"}, {Method: "", Target: "/", Body: "x"}} {
		checkWriteRequest(t, r, "", api.ErrHttp)
	}
	for _, f := range forms() {
		for _, name := range []string{"", "Content-Length", "content-length", "CONTENT-LENGTH", "cOntent-lengtH", "Transfer-Encoding", "transfer-encoding", "TRANSFER-ENCODING", "a:", "a b", ":", " a"} {
			f.checkWrite(t, "a head "+name, heads(head("a", "b"), head(name, "0"), head("c", "")), "", "", api.ErrHttp)
		}
		for _, name := range []string{"Content-Lengt", "Content-Length2", "Content_Length", "TransferEncoding", "Transfer-Encodin", "Content-Type", "C"} {
			f.checkWrite(t, "a head "+name, heads(head(name, "0")), "", f.with(name+": 0", "Content-Length: 0"), api.OK)
		}
	}
}

func TestP71WriteMany(t *testing.T) {
	for _, f := range forms() {
		f.checkWrite(t, "MaxHeads", many(api.MaxHeads), "", f.with(append(manyLines(api.MaxHeads), "Content-Length: 0")...), api.OK)
		f.checkWrite(t, "MaxHeads + 1", many(api.MaxHeads+1), "", "", api.ErrHttp)
	}
}

func TestP71WriteLong(t *testing.T) {
	room := strings.Repeat("x", api.MaxLine)
	for extra, want := range map[int]api.Errno{-1: api.OK, 0: api.OK, 1: api.ErrHttp, 100: api.ErrHttp} {
		long := func(others string) string { return strings.Repeat("x", api.MaxLine-len(others)+extra) }
		for _, r := range []api.Request{{Method: "GET", Target: long("GET  HTTP/1.1")}, {Method: long(" / HTTP/1.1"), Target: "/"}, {Method: room[:2000], Target: long(room[:2000] + "  HTTP/1.1")}} {
			written := lines(r.Method+" "+r.Target+" HTTP/1.1", "Content-Length: 0")
			if want != api.OK {
				written = ""
			}
			checkWriteRequest(t, r, written, want)
		}
		for _, f := range forms() {
			for _, h := range []api.Head{head("a", long("a: ")), head(long(": "), ""), head(long(": b"), "b")} {
				written := f.with("x: y", h.Name+": "+h.Value, "Content-Length: 0")
				if want != api.OK {
					written = ""
				}
				f.checkWrite(t, "a line longer by "+strconv.Itoa(extra), heads(head("x", "y"), h), "", written, want)
			}
		}
	}
	for _, f := range forms() {
		body := strings.Repeat("\n", api.MaxBytes)
		f.checkWrite(t, "MaxBytes", nil, body, f.with("Content-Length: 65536")+body, api.OK)
		f.checkWrite(t, "MaxBytes + 1", nil, body+"x", "", api.ErrHttp)
	}
}

func TestP73WriteKeepsWhatIsHandedIn(t *testing.T) {
	for _, f := range forms() {
		l := append(make([]api.Head, 0, 8), head("a", "b"), head("C", "d"))
		before := slices.Clone(l[:cap(l)])
		s, _ := f.write(l, "body")
		if !slices.Equal(l[:cap(l)], before) {
			t.Errorf("%s: what was handed in is changed: %q", f.name, l[:cap(l)])
		}
		clear(l)
		f.checkWrite(t, "once more", before[:2], "body", s, api.OK)
	}
}
