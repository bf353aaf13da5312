package http_test

import (
	"math/rand/v2"
	"regexp"
	"slices"
	"strconv"
	"strings"
	"testing"

	"penstock/api"
	"penstock/http"
)

const (
	letters = "abcdefghijklmnopqrstuvwxyzABCDEFGHIJKLMNOPQRSTUVWXYZ"
	marks   = "!#$%&'*+-.^_`|~"
	tokens  = letters + "0123456789" + marks
	token   = "[-!#$%&'*+.^_`|~0-9A-Za-z]+" // as a pattern
)

// message is what a request and a response have in common; First is what the first line says, told apart by spaces.
type message struct {
	First string
	Heads []api.Head
	Body  string
}

func (m message) same(o message) bool {
	return m.First == o.First && slices.Equal(m.Heads, o.Heads) && m.Body == o.Body
}

// form is requests, or responses.
type form struct {
	name  string
	first string // a first line
	says  string // First of such a message
	line  *regexp.Regexp
	must  bool // a body's length must be told
	read  func(s string, most int) (message, int, api.Errno)
	write func(heads []api.Head, body string) (string, api.Errno)
}

func requests() form {
	return form{"request", "POST /x HTTP/1.1", "POST /x", regexp.MustCompile("^(" + token + " [!-~]+) HTTP/1[.]1$"), false,
		func(s string, most int) (message, int, api.Errno) {
			r, size, why := http.ReadRequest(s, most)
			return message{strings.TrimSpace(r.Method + " " + r.Target), r.Heads, r.Body}, size, why
		},
		func(heads []api.Head, body string) (string, api.Errno) {
			return http.WriteRequest(api.Request{Method: "POST", Target: "/x", Heads: heads, Body: body})
		}}
}

func responses() form {
	return form{"response", "HTTP/1.1 200 OK", "200", regexp.MustCompile("(?s)^HTTP/1[.]1 ([1-5][0-9][0-9]) .*$"), true,
		func(s string, most int) (message, int, api.Errno) {
			r, size, why := http.ReadResponse(s, most)
			first := strconv.Itoa(r.Status)
			if r.Status == 0 {
				first = ""
			}
			return message{first, r.Heads, r.Body}, size, why
		},
		func(heads []api.Head, body string) (string, api.Errno) {
			return http.WriteResponse(api.Response{Status: 200, Heads: heads, Body: body})
		}}
}

func forms() []form { return []form{requests(), responses()} }

// lines is what is handed in, CR and LF behind each, and an empty line.
func lines(l ...string) string { return strings.Join(append(slices.Clone(l), "", ""), "\r\n") }

// with is a message of the form with these heads' lines, without a body of its own.
func (f form) with(l ...string) string { return lines(slices.Concat([]string{f.first}, l)...) }

// chunks is a message of the form, its body as it is handed in.
func (f form) chunks(body string) string { return f.with("Transfer-Encoding: chunked") + body }

func head(name, value string) api.Head { return api.Head{Name: name, Value: value} }
func heads(l ...api.Head) []api.Head   { return l }

// many is so many heads, and manyLines their lines.
func many(n int) []api.Head {
	var l []api.Head
	for i := range n {
		l = append(l, head("n"+strconv.Itoa(i), strconv.Itoa(i)))
	}
	return l
}

func manyLines(n int) []string {
	var l []string
	for _, h := range many(n) {
		l = append(l, h.Name+": "+h.Value)
	}
	return l
}

func short(s string) string {
	if len(s) > 200 {
		return s[:100] + " .. " + s[len(s)-100:]
	}
	return s
}

// checkRead tells that s is read as want, and that it is so with something behind it, which is not counted.
func (f form) checkRead(t *testing.T, name, s string, most int, want message) {
	t.Helper()
	for _, behind := range []string{"", "x", "\r\n", "\n", s} {
		m, size, why := f.read(s+behind, most)
		if !m.same(want) || size != len(s) || why != api.OK {
			t.Errorf("%s, %s: read of %q as %q, %q, body %q, %d bytes of %d, error %d", f.name, name, short(s), m.First, m.Heads, short(m.Body), size, len(s), why)
			return
		}
	}
}

// checkRefused tells that s has that error, and nothing beside it.
func (f form) checkRefused(t *testing.T, name, s string, most int, want api.Errno) {
	t.Helper()
	m, size, why := f.read(s, most)
	if !m.same(message{}) || size != 0 || why != want {
		t.Errorf("%s, %s: read of %q: error %d, want %d, beside it %q, %q, body %q, %d bytes", f.name, name, short(s), why, want, m.First, m.Heads, short(m.Body), size)
	}
}

// checkWrite tells what is written of heads and a body.
func (f form) checkWrite(t *testing.T, name string, l []api.Head, body, want string, wantWhy api.Errno) {
	t.Helper()
	s, why := f.write(l, body)
	checkWritten(t, f.name+", "+name, s, why, want, wantWhy)
}

func checkWritten(t *testing.T, name, s string, why api.Errno, want string, wantWhy api.Errno) {
	t.Helper()
	if s != want || why != wantWhy {
		t.Errorf("%s: written %q, error %d, want %q, error %d", name, short(s), why, short(want), wantWhy)
	}
}

// model reads by places and patterns; once something is wrong, it stays so.
type model struct {
	s   string
	at  int
	why api.Errno
}

var modelHead = regexp.MustCompile("^(" + token + "):[ \t]*(|[^\\x00- \\x7f]|[^\\x00- \\x7f][^\\x00-\\x08\\x0a-\\x1f\\x7f]*[^\\x00- \\x7f])[ \t]*$")

func (m *model) unless(is bool, why api.Errno) {
	if !is && m.why == api.OK {
		m.why = why
	}
}

func (m *model) line() string {
	end := m.at
	for end < len(m.s) && end < m.at+api.MaxLine+2 && m.s[end] != '\n' {
		end++
	}
	m.unless(end < m.at+api.MaxLine+2, api.ErrLong)
	m.unless(end < len(m.s), api.ErrMore)
	m.unless(end > m.at && m.s[end-1] == '\r', api.ErrHttp)
	if m.why != api.OK {
		return ""
	}
	line := m.s[m.at : end-1]
	m.at = end + 1
	return line
}

func (m *model) match(line string, what *regexp.Regexp) []string {
	l := what.FindStringSubmatch(line)
	m.unless(l != nil, api.ErrHttp)
	if m.why != api.OK {
		return make([]string, 9)
	}
	return l
}

func (m *model) heads() (l []api.Head, lengths, codings []string) {
	for line := m.line(); line != "" && m.why == api.OK; line = m.line() {
		x := m.match(line, modelHead)
		switch strings.ToLower(x[1]) {
		case "content-length":
			lengths = append(lengths, x[2])
		case "transfer-encoding":
			codings = append(codings, x[2])
		default:
			l = append(l, head(x[1], x[2]))
			m.unless(len(l) <= api.MaxHeads, api.ErrLong)
		}
	}
	return l, lengths, codings
}

var (
	modelLength  = regexp.MustCompile("^[0-9]{1,9}$")
	modelChunked = regexp.MustCompile("^(?i:chunked)$")
	modelChunk   = regexp.MustCompile("(?s)^([0-9a-fA-F]{1,8})(|;.*)$")
)

func (m *model) bytes(n, most int) string {
	m.unless(n <= most, api.ErrLong)
	m.unless(n <= len(m.s)-m.at, api.ErrMore)
	if m.why != api.OK {
		return ""
	}
	m.at += n
	return m.s[m.at-n : m.at]
}

func (m *model) chunks(most int) string {
	body := ""
	for m.why == api.OK {
		size, _ := strconv.ParseInt(m.match(m.line(), modelChunk)[1], 16, 64)
		if size == 0 {
			m.heads()
			break
		}
		body += m.bytes(int(size), most-len(body))
		for _, b := range []byte("\r\n") {
			m.unless(m.at < len(m.s), api.ErrMore)
			m.unless(m.why != api.OK || m.s[m.at] == b, api.ErrHttp)
			m.at++
		}
	}
	return body
}

func (f form) model(s string, most int) (message, int, api.Errno) {
	m := &model{s: s}
	m.unless(0 <= most && most <= api.MaxBytes, api.ErrRange)
	out := message{First: m.match(m.line(), f.line)[1]}
	l, lengths, codings := m.heads()
	out.Heads = l
	if m.why == api.OK {
		switch {
		case len(codings) > 0:
			m.unless(len(codings) == 1 && len(lengths) == 0 && modelChunked.MatchString(codings[0]), api.ErrHttp)
			out.Body = m.chunks(most)
		case len(lengths) > 0:
			m.unless(len(lengths) == 1 && modelLength.MatchString(lengths[0]), api.ErrHttp)
			n, _ := strconv.Atoi(lengths[0])
			out.Body = m.bytes(n, most)
		default:
			m.unless(!f.must, api.ErrHttp)
		}
	}
	if m.why != api.OK {
		return message{}, 0, m.why
	}
	return out, m.at, api.OK
}

// checkModel tells that s is read as the model has it.
func (f form) checkModel(t *testing.T, s string, most int) api.Errno {
	t.Helper()
	want, wantSize, wantWhy := f.model(s, most)
	m, size, why := f.read(s, most)
	if !m.same(want) || size != wantSize || why != wantWhy {
		t.Errorf("%s: read of %q, at most %d: %q, %d, error %d, want %q, %d, error %d", f.name, short(s), most, m, size, why, want, wantSize, wantWhy)
	}
	return why
}

func pick[T any](r *rand.Rand, l ...T) T { return l[r.IntN(len(l))] }

func someToken(r *rand.Rand) string {
	b := make([]byte, 1+r.IntN(12))
	for i := range b {
		b[i] = tokens[r.IntN(len(tokens))]
	}
	return string(b)
}

// someBytes may have whatever.
func someBytes(r *rand.Rand, n int) string {
	b := make([]byte, n)
	for i := range b {
		b[i] = pick(r, '\r', '\n', '0', ';', byte(r.Uint32()), byte(r.Uint32()))
	}
	return string(b)
}

func someValue(r *rand.Rand) string {
	s := strings.Map(func(c rune) rune {
		if c < 32 && c != '\t' || c == 127 {
			return -1
		}
		return c
	}, someBytes(r, r.IntN(10)))
	return strings.Trim(s, " \t")
}

func someHeads(r *rand.Rand) []api.Head {
	var l []api.Head
	for range pick(r, 0, 1, 2, 5, api.MaxHeads) {
		l = append(l, head(someToken(r), someValue(r)))
	}
	return l
}

func someBody(r *rand.Rand) string { return someBytes(r, pick(r, 0, 1, 9, 10, 99, 100, 2000)) }

func spaces(r *rand.Rand) string { return pick(r, "", "", " ", "\t", " \t ") }

func someCase(r *rand.Rand, s string) string {
	return strings.Map(func(c rune) rune {
		if r.IntN(2) == 0 {
			return []rune(strings.ToUpper(string(c)))[0]
		}
		return []rune(strings.ToLower(string(c)))[0]
	}, s)
}

// inChunks is the body in chunks of any sizes, with whatever may stand beside them.
func inChunks(r *rand.Rand, body string) string {
	var s strings.Builder
	chunk := func(n int) {
		digits := strconv.FormatInt(int64(n), 16)
		digits = strings.Repeat("0", r.IntN(9-len(digits))) + digits
		s.WriteString(someCase(r, digits) + pick(r, "", ";", ";a=b", "; \xff\r\x00;") + "\r\n")
	}
	for body != "" {
		n := 1 + r.IntN(len(body))
		chunk(n)
		s.WriteString(body[:n] + "\r\n")
		body = body[n:]
	}
	chunk(0)
	for range r.IntN(3) {
		s.WriteString(pick(r, "a:", "Content-Length: 7", "transfer-encoding: x", "b: c") + "\r\n")
	}
	s.WriteString("\r\n")
	return s.String()
}

// some is bytes that are a message of the form, and the message.
func (f form) some(r *rand.Rand) (string, message) {
	m := message{f.says, someHeads(r), someBody(r)}
	length := someCase(r, "Content-Length") + ":" + spaces(r) + strconv.Itoa(len(m.Body)) + spaces(r)
	body := m.Body
	if r.IntN(2) == 0 {
		length, body = someCase(r, "Transfer-Encoding")+":"+spaces(r)+someCase(r, "chunked")+spaces(r), inChunks(r, m.Body)
	}
	var l []string
	for _, h := range m.Heads {
		l = append(l, h.Name+":"+spaces(r)+h.Value+spaces(r))
	}
	l = slices.Insert(l, r.IntN(len(l)+1), length)
	return f.with(l...) + body, m
}

// spoiled is s, but for a few bytes or pieces.
func spoiled(r *rand.Rand, s string) string {
	for range r.IntN(4) {
		at := r.IntN(len(s) + 1)
		to := min(at+pick(r, 0, 1, 1, 2), len(s))
		s = s[:at] + pick(r, "", "", "\r\n", "\n", "\r", ":", " ", "0", ";", "x", "Content-Length: 1\r\n", "transfer-encoding:chunked\r\n", string([]byte{byte(r.Uint32())})) + s[to:]
	}
	return s
}
