package http_test

import (
	"math"
	"slices"
	"strconv"
	"strings"
	"testing"

	"penstock/api"
)

func TestP71ReadRequest(t *testing.T) {
	f := requests()
	f.checkRead(t, "the document's", "POST /v1/logs HTTP/1.1\r\nContent-Length: 2\r\n\r\nhi", 2, message{"POST /v1/logs", nil, "hi"})
	f.checkRead(t, "one without anything", lines("G * HTTP/1.1"), 0, message{First: "G *"})
	f.checkRead(t, "one of anything", lines("x!~ !~ HTTP/1.1", "a:b", "Content-Length: 3", "a:  c\t", "Host: \t x y\xff ")+"\r\n\x00", 9, message{"x!~ !~", heads(head("a", "b"), head("a", "c"), head("Host", "x y\xff")), "\r\n\x00"})
}

func TestP71ReadResponse(t *testing.T) {
	f := responses()
	f.checkRead(t, "one without anything", lines("HTTP/1.1 204 No", "Content-Length: 0"), 0, message{First: "204"})
	f.checkRead(t, "one of anything", lines("HTTP/1.1 503 Service Unavailable", "content-length:1", "a: b c", "A:")+"x", 9, message{"503", heads(head("a", "b c"), head("A", "")), "x"})
	for status := range 1000 {
		digits := strconv.Itoa(1000 + status)[1:]
		s := lines("HTTP/1.1 "+digits+" x", "Content-Length: 0")
		if status >= 100 && status <= 599 {
			f.checkRead(t, digits, s, 0, message{First: digits})
		} else {
			f.checkRefused(t, digits, s, 0, api.ErrHttp)
		}
	}
}

func TestP71FirstLinesOfRequests(t *testing.T) {
	for _, first := range []string{"", " ", "x", "GET", "GET ", "GET /", "GET / ", "GET /x", "GET / HTTP/1.0", "GET / HTTP/1.2", "GET / HTTP/2", "GET / http/1.1", "GET / HTTP/1.1 ", " GET / HTTP/1.1", "GET  / HTTP/1.1", "GET /  HTTP/1.1",
		"GET\t/ HTTP/1.1", "GET /\tHTTP/1.1", "GET / x HTTP/1.1", "GET / HTTP/1.1 x", "GET / HTTP/1.1\r", "GET HTTP/1.1", " / HTTP/1.1", "GET  HTTP/1.1", "GET / HTTP/1.", "GET / HTTP/1.11", "GET / XHTTP/1.1", "G:T / HTTP/1.1", "(GET) / HTTP/1.1", "GET /é HTTP/1.1", "GÉT / HTTP/1.1",
		"HTTP/1.1 200 OK", "\x00", "\xff", "\r"} {
		requests().checkRefused(t, "a first line", lines(first), 0, api.ErrHttp)
		requests().checkRefused(t, "a first line", first+"\r\n", 0, api.ErrHttp)
		requests().checkRefused(t, "a first line", first+"\r\n\x00\n", 0, api.ErrHttp)
	}
}

func TestP71FirstLinesOfResponses(t *testing.T) {
	length := "Content-Length: 0"
	for _, first := range []string{"", " ", "x", "HTTP/1.1", "HTTP/1.1 ", "HTTP/1.1 200", "HTTP/1.1  200 OK", "HTTP/1.1 200OK", "HTTP/1.1 200\tOK", "HTTP/1.1\t200 OK", " HTTP/1.1 200 OK", "HTTP/1.0 200 OK", "HTTP/2 200 OK", "http/1.1 200 OK", "HTTP/1.1 20 OK", "HTTP/1.1 2 OK", "HTTP/1.1 2000 OK", "HTTP/1.1 0200 OK",
		"HTTP/1.1 -20 OK", "HTTP/1.1 +20 OK", "HTTP/1.1 2x0 OK", "HTTP/1.1 0xc OK", "HTTP/1.1 ff0 OK", "HTTP/1.1 2_0 OK", "HTTP/1.1 ٣٣٣ OK", "HTTP/1.1 200\rOK", "HTTP/1.1 OK 200", "200 OK", "OK", "GET / HTTP/1.1", "\xff"} {
		responses().checkRefused(t, "a first line", lines(first, length), 0, api.ErrHttp)
		responses().checkRefused(t, "a first line", first+"\r\n", 0, api.ErrHttp)
	}
	for _, reason := range []string{"", " ", "OK", "No OK", "Other", "é", "\xff", "\r", "a\rb", "\x00\x7f\t", " HTTP/1.1 200 OK"} {
		responses().checkRead(t, "a reason", lines("HTTP/1.1 200 "+reason, length), 0, message{First: "200"})
	}
}

func TestP71ReadBytes(t *testing.T) {
	for i := range 256 {
		b := string([]byte{byte(i)})
		for at, s := range places(b) {
			r := requests()
			if strings.Contains(tokens, b) {
				r.checkRead(t, "a method", lines(s+" / HTTP/1.1"), 0, message{First: s + " /"})
			} else {
				r.checkRefused(t, "a method", lines(s+" / HTTP/1.1"), 0, api.ErrHttp)
			}
			if i >= 0x21 && i <= 0x7e {
				r.checkRead(t, "a target", lines("G "+s+" HTTP/1.1"), 0, message{First: "G " + s})
			} else {
				r.checkRefused(t, "a target", lines("G "+s+" HTTP/1.1"), 0, api.ErrHttp)
			}
			for _, f := range forms() {
				length := "Content-Length: 0"
				switch {
				case strings.Contains(tokens, b):
					f.checkRead(t, "a name", f.with(s+": v", length), 0, message{f.says, heads(head(s, "v")), ""})
				case b != ":" || at < 2:
					f.checkRefused(t, "a name", f.with(s+": v", length), 0, api.ErrHttp)
				}
				if i == 9 || i >= 32 && i != 127 {
					f.checkRead(t, "a value", f.with("n: "+s, length), 0, message{f.says, heads(head("n", strings.Trim(s, " \t"))), ""})
				} else {
					f.checkRefused(t, "a value", f.with("n: "+s, length), 0, api.ErrHttp)
				}
			}
		}
	}
}

func TestP71Heads(t *testing.T) {
	for _, f := range forms() {
		length := "Content-Length: 0"
		for line, want := range map[string]api.Head{
			"a:": head("a", ""), "a: ": head("a", ""), "a:\t \t": head("a", ""), "a:b": head("a", "b"), "a:\tb\t": head("a", "b"), "a: b c ": head("a", "b c"), "a: \t b\t\tc \t": head("a", "b\t\tc"),
			"a::": head("a", ":"), "a: b: c": head("a", "b: c"), "AbC: DeF": head("AbC", "DeF"), "a:\xff": head("a", "\xff"), "a: \u00a0": head("a", "\u00a0"), "a: \u2003b": head("a", "\u2003b"), "!: x": head("!", "x"), "Content-Lengths: x": head("Content-Lengths", "x"), "Transfer-Encodings: x": head("Transfer-Encodings", "x"),
		} {
			f.checkRead(t, "a head", f.with(line, length), 0, message{f.says, heads(want), ""})
			f.checkRead(t, "two heads", f.with("x: y", length, line), 0, message{f.says, heads(head("x", "y"), want), ""})
		}
		for _, line := range []string{"a", ":", ": b", " ", "\t", " a: b", "\ta: b", "a : b", "a\t: b", "a b: c", "a\r: b", "a: b\rc", "a: b\r", "a:\r", "\r", "a: \x00", "a: \x7f", "é: b", "(a): b", "Content-Length", "Content-Length : 0", " folded", "\xff: b", "a;b"} {
			f.checkRefused(t, "a head", f.with(line, length), 0, api.ErrHttp)
			f.checkRefused(t, "a last head", f.with(length, "x: y", line), 0, api.ErrHttp)
			f.checkRefused(t, "a head, and no more", f.first+"\r\n"+line+"\r\n", 0, api.ErrHttp)
		}
	}
}

func TestP71ManyHeads(t *testing.T) {
	for _, f := range forms() {
		most := manyLines(api.MaxHeads)
		f.checkRead(t, "MaxHeads", f.with(append(most, "Content-Length: 1")...)+"x", 1, message{f.says, many(api.MaxHeads), "x"})
		f.checkRead(t, "MaxHeads behind those of framing", f.with(append([]string{"Transfer-Encoding: chunked"}, most...)...)+"0\r\n\r\n", 1, message{f.says, many(api.MaxHeads), ""})
		more := append(slices.Clone(most), "one: more")
		f.checkRefused(t, "MaxHeads + 1", f.with(append(more, "Content-Length: 0")...), 0, api.ErrLong)
		f.checkRefused(t, "MaxHeads + 1, and one of framing", f.with(append([]string{"Content-Length: 0"}, more...)...), 0, api.ErrLong)
		begun := f.first + "\r\n" + strings.Join(most, "\r\n") + "\r\n"
		f.checkRefused(t, "MaxHeads + 1, and no more", begun+"one: more\r\n", 0, api.ErrLong)
		f.checkRefused(t, "MaxHeads + 1 without a name", begun+"one: more\r\n\r\n", 0, api.ErrLong)
		f.checkRefused(t, "the last one is no head", begun+"one\r\n", 0, api.ErrHttp)
		f.checkRefused(t, "the last one has no CR", begun+"one: more\n", 0, api.ErrHttp)
		f.checkRefused(t, "the last one has no LF", begun+"one: more\r", 0, api.ErrMore)
		f.checkRefused(t, "one above, what is behind is wrong", begun+"one: more\r\n\x00\r\n", 0, api.ErrLong)
		f.checkRefused(t, "one above, the length being wrong", begun+"Content-Length: x\r\none: more\r\n\r\n", 0, api.ErrLong)
		f.checkRefused(t, "many of framing", f.with(slices.Repeat([]string{"Content-Length: 1"}, 2*api.MaxHeads)...), 9, api.ErrHttp)
		f.checkRefused(t, "many of framing, and no more", begun+strings.Repeat("Content-Length: 1\r\n", 2*api.MaxHeads), 9, api.ErrMore)
	}
}

// place is where a line stands in a message: it begins and ends with what is told, so that it may be as long as is wished.
type place struct{ ahead, begin, end, behind string }

// line is that line, of n bytes.
func (p place) line(n int) string {
	return p.begin + strings.Repeat("z", n-len(p.begin)-len(p.end)) + p.end
}

func (f form) places() map[string]place {
	first, length := f.first+"\r\n", "Content-Length: 0\r\n\r\n"
	all := map[string]place{
		"a name":        {first, "", ": v", length},
		"a value":       {first, "n: ", "", length},
		"a last head":   {first + "Content-Length: 0\r\n", "n:", " \t", "\r\n"},
		"a chunk":       {f.chunks(""), "1;", "", "x\r\n0\r\n\r\n"},
		"a last chunk":  {f.chunks("1\r\nx\r\n"), "0;", "", "\r\n"},
		"a head behind": {f.chunks("1\r\nx\r\n0\r\n"), "n:", "", "\r\n"},
	}
	if f.must {
		all["a reason"] = place{"", "HTTP/1.1 200 ", "", length}
	} else {
		all["a target"] = place{"", "GET ", " HTTP/1.1", length}
		all["a method"] = place{"", "", " / HTTP/1.1", length}
	}
	return all
}

func TestP71LongLines(t *testing.T) {
	for _, f := range forms() {
		for name, p := range f.places() {
			most := p.line(api.MaxLine)
			whole := p.ahead + most + "\r\n" + p.behind
			if _, size, why := f.read(whole, 9); size != len(whole) || why != api.OK {
				t.Errorf("%s, %s of MaxLine bytes: %d bytes, error %d", f.name, name, size, why)
			}
			for _, more := range []int{1, 2, 3, 1000} {
				f.checkRefused(t, name+" that is too long", p.ahead+p.line(api.MaxLine+more)+"\r\n"+p.behind, 9, api.ErrLong)
			}
			for behind, want := range map[string]api.Errno{"": api.ErrMore, "\r": api.ErrMore, "z": api.ErrMore, "z\r": api.ErrLong, "zz": api.ErrLong, "\n": api.ErrHttp, "z\n": api.ErrHttp, "zz\n": api.ErrLong} {
				f.checkRefused(t, name+" of MaxLine bytes, and "+strconv.Quote(behind), p.ahead+most+behind, 9, want)
			}
		}
	}
}

func TestP71LinesWithoutCR(t *testing.T) {
	for _, f := range forms() {
		for _, s := range []string{
			"\n", f.first + "\n", f.first + "\n\r\n", f.first + "\r\n\n", f.first + "\r\na: b\n\r\n", f.first + "\r\nContent-Length: 0\r\n\n", "\n" + f.first + "\r\n\r\n", "\r\n" + f.with("Content-Length: 0"),
			f.chunks("0\n"), f.chunks("0\r\n\n"), f.chunks("0\r\na: b\n"), f.chunks("1\n"), f.chunks("\n"), f.first + "\n\r",
		} {
			f.checkRefused(t, "a line without CR", s, 0, api.ErrHttp)
		}
		for _, s := range []string{"", "x", "\r", "\x00\xff", f.first, f.first + "\r", f.first + "\r\n", f.first + "\r\n\x00", f.first + "\r\n\r", f.first + "\r\na", f.first + "\r\na: b\r\n"} {
			f.checkRefused(t, "a line that has not ended", s, 0, api.ErrMore)
		}
	}
}

func TestP71Most(t *testing.T) {
	for _, f := range forms() {
		whole := f.with("Content-Length: 0")
		for _, s := range []string{"", "x", "\n", whole, strings.Repeat("x", api.MaxLine+2)} {
			for _, most := range []int{-1, api.MaxBytes + 1, math.MinInt, math.MaxInt, -api.MaxBytes, 1 << 32} {
				f.checkRefused(t, "most "+strconv.Itoa(most), s, most, api.ErrRange)
			}
		}
		f.checkRead(t, "most 0", whole, 0, message{First: f.says})
		f.checkRead(t, "MaxBytes", whole, api.MaxBytes, message{First: f.says})
		for _, most := range []int{0, 1, 9, 10, 255, 256, api.MaxBytes - 1, api.MaxBytes} {
			body, digits := strings.Repeat("\r", most), strconv.Itoa(most)
			f.checkRead(t, "a body of "+digits, f.with("Content-Length: "+digits)+body, most, message{f.says, nil, body})
			f.checkRead(t, "a body of "+digits, f.with("Content-Length: "+digits)+body, min(most+1, api.MaxBytes), message{f.says, nil, body})
			more := f.with("Content-Length: " + strconv.Itoa(most+1))
			f.checkRefused(t, "one above "+digits, more, most, api.ErrLong)
			f.checkRefused(t, "one above "+digits, more+body+"x", most, api.ErrLong)
			if most == 0 {
				f.checkRead(t, "no chunks", f.chunks("0\r\n\r\n"), 0, message{First: f.says})
				f.checkRefused(t, "a chunk", f.chunks("1\r\nx\r\n0\r\n\r\n"), 0, api.ErrLong)
				continue
			}
			hex := strconv.FormatInt(int64(most), 16)
			one := f.chunks(hex + "\r\n" + body + "\r\n")
			f.checkRead(t, "a chunk of "+hex, one+"0\r\n\r\n", most, message{f.says, nil, body})
			f.checkRefused(t, "one chunk more", one+"1\r\n", most, api.ErrLong)
			f.checkRefused(t, "one chunk more", one+"1\r\nx\r\n0\r\n\r\n", most, api.ErrLong)
			f.checkRefused(t, "a chunk that is too long", f.chunks(strconv.FormatInt(int64(most+1), 16)+"\r\n"), most, api.ErrLong)
			f.checkRefused(t, "a chunk that is too long by far", f.chunks("1\r\n\r\r\nffffffff\r\n"), most, api.ErrLong)
		}
	}
}

func TestP71Lengths(t *testing.T) {
	for _, f := range forms() {
		for value, size := range map[string]int{"0": 0, "1": 1, "9": 9, "10": 10, "00": 0, "02": 2, "000000000": 0, "000000003": 3, "000065536": api.MaxBytes, " \t 4 \t ": 4} {
			body := strings.Repeat("b", size)
			for _, name := range []string{"Content-Length", "content-length", "CONTENT-LENGTH", "cONTENT-lENGTH"} {
				f.checkRead(t, "length "+value, f.with("a: b", name+":"+value, "c: d")+body, api.MaxBytes, message{f.says, heads(head("a", "b"), head("c", "d")), body})
			}
		}
		for _, value := range []string{"", " ", "x", "-1", "+1", "1 1", "1,1", "1, 1", "1.0", "0x1", "1e1", "a", "1;", "1_0", "٣", "\xff", "0000000000", "0000000001", "1234567890", "4294967296", "99999999999999999999", "18446744073709551617", strings.Repeat("0", 4000)} {
			f.checkRefused(t, "length "+short(value), f.with("Content-Length: "+value)+"xx", 9, api.ErrHttp)
		}
		for _, value := range []string{"10", "65537", "999999999", "000000010", "100000000"} {
			f.checkRefused(t, "length "+value, f.with("Content-Length: "+value), 9, api.ErrLong)
		}
		for _, s := range []string{f.with("Content-Length: 2"), f.with("Content-Length: 2") + "x", f.with("Content-Length: 9") + "12345678"} {
			f.checkRefused(t, "a body that is not all there", s, 9, api.ErrMore)
		}
		for _, l := range [][]string{{"Content-Length: 1", "Content-Length: 1"}, {"Content-Length: 1", "a: b", "content-length: 2"}, {"Content-Length: 1", "Content-Length:"}, {"Content-Length: 99", "Content-Length: 99"}, {"CONTENT-LENGTH: 1", "content-length: x", "Content-Length: 1"}} {
			f.checkRefused(t, "several lengths", f.with(l...)+"x", 9, api.ErrHttp)
		}
	}
	requests().checkRead(t, "no length", lines("GET / HTTP/1.1", "a: b"), 9, message{"GET /", heads(head("a", "b")), ""})
	responses().checkRefused(t, "no length", lines("HTTP/1.1 200 OK", "a: b"), 9, api.ErrHttp)
	for _, status := range []string{"100", "204", "304", "503"} {
		responses().checkRefused(t, "no length", lines("HTTP/1.1 "+status+" x"), 9, api.ErrHttp)
	}
}

func TestP71Codings(t *testing.T) {
	for _, f := range forms() {
		want := message{f.says, heads(head("a", "b")), "hi"}
		for _, line := range []string{"Transfer-Encoding: chunked", "transfer-encoding:CHUNKED", "TRANSFER-ENCODING:\tcHuNkEd ", "Transfer-encoding: Chunked"} {
			f.checkRead(t, line, f.with(line, "a: b")+"2\r\nhi\r\n0\r\n\r\n", 2, want)
		}
		for _, line := range []string{"Transfer-Encoding:", "Transfer-Encoding: x", "Transfer-Encoding: identity", "Transfer-Encoding: gzip, chunked", "Transfer-Encoding: chunked, chunked", "Transfer-Encoding: chunked;a=b", "Transfer-Encoding: chunke", "Transfer-Encoding: chunkedd", "Transfer-Encoding: chun ked", "Transfer-Encoding: chun\u212Aed"} {
			f.checkRefused(t, line, f.with(line), 2, api.ErrHttp)
			f.checkRefused(t, line, f.with(line)+"2\r\nhi\r\n0\r\n\r\n", 2, api.ErrHttp)
		}
		coding := "Transfer-Encoding: chunked"
		for _, l := range [][]string{{coding, coding}, {coding, "Content-Length: 2"}, {"Content-Length: 2", coding}, {"content-length: 99", coding}, {coding, "a: b", "transfer-encoding: x"}, {"Transfer-Encoding: x", coding}, {coding, "Content-Length:"}, {"Transfer-Encoding: x", "Content-Length: 99"}} {
			f.checkRefused(t, strings.Join(l, ", "), f.with(l...), 2, api.ErrHttp)
			f.checkRefused(t, strings.Join(l, ", "), f.with(l...)+"2\r\nhi\r\n0\r\n\r\n", 2, api.ErrHttp)
		}
	}
}

func TestP71Chunks(t *testing.T) {
	for _, f := range forms() {
		for chunks, body := range map[string]string{
			"0\r\n\r\n": "", "00000000\r\n\r\n": "", "0;\r\n\r\n": "", "00;x\r\n\r\n": "",
			"1\r\nx\r\n0\r\n\r\n": "x", "00000001\r\nx\r\n0\r\n\r\n": "x", "1\r\nx\r\n1\r\ny\r\n0\r\n\r\n": "xy", "2\r\n\r\n\r\n0\r\n\r\n": "\r\n",
			"a\r\n0123456789\r\n0\r\n\r\n": "0123456789", "A\r\n0123456789\r\n0\r\n\r\n": "0123456789", "0f\r\n0123456789abcde\r\n0\r\n\r\n": "0123456789abcde", "1A\r\n" + letters[:26] + "\r\n0\r\n\r\n": letters[:26],
			"1;\r\nx\r\n0\r\n\r\n": "x", "1;a=b\r\nx\r\n0;c\r\n\r\n": "x", "1;\x00\xff\r ;\r\nx\r\n0;;\r\r\n\r\n": "x",
			"5\r\n0\r\n\r\n\r\n0\r\n\r\n": "0\r\n\r\n",
		} {
			f.checkRead(t, "chunks", f.chunks(chunks), 26, message{f.says, nil, body})
			f.checkRead(t, "chunks", f.chunks(chunks), len(body), message{f.says, nil, body})
		}
		for _, chunks := range []string{"\r\n", " 0\r\n", "0 \r\n", "0 ;\r\n", "\t0\r\n", ";\r\n", ";0\r\n", "g\r\n", "x\r\n", "0x1\r\n", "-1\r\n", "+1\r\n", "1_0\r\n", "1g\r\n", "1,\r\n", "1\r\r\n", "\r0\r\n", "\r\r\n", "000000000\r\n", "000000001\r\n", "fffffffff\r\n", "1.0\r\n", "٣\r\n", "10000000000000001\r\n"} {
			f.checkRefused(t, "a chunk's line", f.chunks(chunks), 26, api.ErrHttp)
			f.checkRefused(t, "a second chunk's line", f.chunks("1\r\nx\r\n"+chunks), 26, api.ErrHttp)
		}
		for _, size := range []string{"1b", "ff", "10000", "7fffffff", "80000000", "ffffffff", "FFFFFFFF", "0000001b;x"} {
			f.checkRefused(t, "a chunk of "+size, f.chunks(size+"\r\n"), 26, api.ErrLong)
			f.checkRefused(t, "a chunk of "+size, f.chunks("1\r\nx\r\n"+size+"\r\n"), 26, api.ErrLong)
		}
		f.checkRefused(t, "chunks that are too long together", f.chunks("2\r\nxx\r\n2\r\n"), 3, api.ErrLong)
		f.checkRead(t, "chunks that are as long as may be together", f.chunks("2\r\nxx\r\n1\r\ny\r\n0\r\n\r\n"), 3, message{f.says, nil, "xxy"})
	}
}

func TestP71ChunksThatAreNotThere(t *testing.T) {
	for _, f := range forms() {
		for _, chunks := range []string{"", "0", "2", "2\r", "2;", "x", "\r", "fffffffff", "2\r\n", "2\r\nh", "2\r\nhi", "2\r\nhi\r", "2\r\nhi\r\n", "2\r\nhi\r\n0", "0\r", "0\r\n", "0\r\n\r", "0\r\na", "0\r\n\x00", "0\r\na: b\r\n", "0\r\na: b\r\n\r", "2\r\n\n", "2\r\n\nx"} {
			f.checkRefused(t, "chunks", f.chunks(chunks), 2, api.ErrMore)
		}
		for _, chunks := range []string{"2\r\nhi\n", "2\r\nhix", "2\r\nhi\rx", "2\r\nhi\r\r", "2\r\nhi\r\r\n", "2\r\nhi \r\n", "2\r\nhi0\r\n\r\n", "2\r\nhi\n\r"} {
			f.checkRefused(t, "what is behind a chunk", f.chunks(chunks), 2, api.ErrHttp)
			f.checkRefused(t, "what is behind a chunk", f.chunks(chunks+"\r\n0\r\n\r\n"), 2, api.ErrHttp)
		}
	}
}

func TestP71HeadsBehindChunks(t *testing.T) {
	for _, f := range forms() {
		want := message{f.says, heads(head("a", "b")), "hi"}
		begun := f.with("Transfer-Encoding: chunked", "a: b") + "2\r\nhi\r\n0\r\n"
		for _, behind := range []string{"", "a: c\r\n", "a:\r\nb:c\r\nd: \xff\r\n", "Content-Length: 5\r\n", "Content-Length: x\r\nContent-Length: 5\r\n", "transfer-encoding: chunked\r\n", "Transfer-Encoding: x\r\n", strings.Join(manyLines(9), "\r\n") + "\r\n"} {
			f.checkRead(t, "heads behind chunks", begun+behind+"\r\n", 2, want)
		}
		for _, behind := range []string{"a", " ", "a b: c", ": b", "a : b", "a: b\x00", "a: b\r", "0", "2", "\r"} {
			f.checkRefused(t, "what is no head behind chunks", begun+behind+"\r\n", 2, api.ErrHttp)
			f.checkRefused(t, "what is no head behind chunks", begun+"a: b\r\n"+behind+"\r\n\r\n", 2, api.ErrHttp)
		}
	}
}

// TestP71WhatComesFirst has several things wrong, from the left: it is the first one that is told.
func TestP71WhatComesFirst(t *testing.T) {
	long := strings.Repeat("x", api.MaxLine+2)
	for _, f := range forms() {
		wrong := []struct {
			bytes string
			why   api.Errno
		}{{"x\r\n", api.ErrHttp}, {long, api.ErrLong}, {"x\n", api.ErrHttp}, {"\n", api.ErrHttp}, {"x", api.ErrMore}}
		for _, ahead := range []string{"", f.first + "\r\n", f.first + "\r\na: b\r\n", f.chunks("0\r\n"), f.chunks("1\r\nx\r\n")} {
			for _, x := range wrong {
				f.checkRefused(t, "one thing", ahead+x.bytes, 9, x.why)
				for _, y := range wrong {
					if x.why != api.ErrMore {
						f.checkRefused(t, "two things", ahead+x.bytes+y.bytes, 9, x.why)
					}
				}
			}
		}
		f.checkRefused(t, "a length that is none, and a line that is none", f.first+"\r\nContent-Length: x\r\n", 9, api.ErrMore)
		f.checkRefused(t, "a length that is none, and a line that is too long", f.first+"\r\nContent-Length: x\r\n"+long, 9, api.ErrLong)
		f.checkRefused(t, "a length that is too long, and no CR", f.first+"\r\nContent-Length: 10\r\n\n", 9, api.ErrHttp)
		f.checkRefused(t, "two lengths that are too long", f.with("Content-Length: 10", "Content-Length: 10"), 9, api.ErrHttp)
		f.checkRefused(t, "a length that is too long, all being there", f.with("Content-Length: 10")+strings.Repeat("x", 10), 9, api.ErrLong)
		f.checkRefused(t, "a chunk that is not there, and too long", f.chunks("a\r\n"), 9, api.ErrLong)
		f.checkRefused(t, "a chunk with no CR, and too long", f.chunks("a\n"), 9, api.ErrHttp)
		f.checkRefused(t, "a chunk that is none behind one whose end is none", f.chunks("1\r\nxx\r\n"), 9, api.ErrHttp)
		f.checkRefused(t, "most ahead of all", "x\n", api.MaxBytes+1, api.ErrRange)
	}
}
