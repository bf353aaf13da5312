package http_test

import (
	"math/rand/v2"
	"runtime"
	"slices"
	"strings"
	"testing"

	"penstock/api"
	"penstock/http"
)

func TestP72Find(t *testing.T) {
	l := heads(head("A", "1"), head("b", "2"), head("a", "3"), head("Content-Type", "x"), head("", "4"), head("B", ""), head("k", "5"), head("s", "6"), head("\xff", "7"), head("é", "8"), head("[", "9"), head("c", ""), head("C", "10"), head("@", "11"))
	for name, want := range map[string]string{"A": "1", "a": "1", "b": "2", "B": "2", "content-type": "x", "CONTENT-TYPE": "x", "Content-Type": "x", "cOnTeNt-TyPe": "x", "": "4", "K": "5", "S": "6", "\xff": "7", "é": "8", "[": "9", "c": "", "C": "", "@": "11"} {
		if value, is := http.Find(l, name); value != want || !is {
			t.Errorf("Find of %q: %q, %v", name, value, is)
		}
	}
	for _, name := range []string{"x", "aa", "Content", "Content-Types", "Content-Typ", "content_type", " a", "a ", "a:", "\xfe", "{", "`", "\u212a", "\u017f", "\ufffd"} {
		if value, is := http.Find(l, name); value != "" || is {
			t.Errorf("Find of %q: %q, %v", name, value, is)
		}
	}
	if value, is := http.Find(nil, ""); value != "" || is {
		t.Error("Find in nothing:", value, is)
	}
	for i := range 26 {
		if _, is := http.Find(heads(head(letters[i:i+1], "")), letters[26+i:27+i]); !is {
			t.Errorf("Find of %q", letters[i])
		}
	}
	for i := range 128 {
		for j := range 128 {
			a, b := string(rune(i)), string(rune(j))
			if _, is := http.Find(heads(head("x"+a, "")), "X"+b); is != (strings.ToLower(a) == strings.ToLower(b)) {
				t.Errorf("Find of %q among %q: %v", b, a, is)
			}
		}
	}
}

func TestP73NewMemory(t *testing.T) {
	for _, f := range forms() {
		for _, s := range []string{f.with("a: b", "c: d", "Content-Length: 0", "e: f"), f.with("a: b", "Transfer-Encoding: chunked", "c: d", "e: f") + "0\r\nx: y\r\n\r\n"} {
			one, _, _ := f.read(s, 9)
			two, _, _ := f.read(s, 9)
			for i := range one.Heads {
				one.Heads[i] = head("x", "y")
			}
			_ = append(one.Heads[:1], head("z", ""))
			_ = append(one.Heads, head("z", ""))
			three, _, _ := f.read(s, 9)
			want := heads(head("a", "b"), head("c", "d"), head("e", "f"))
			if !slices.Equal(two.Heads, want) || !slices.Equal(three.Heads, want) {
				t.Errorf("%s: answers share memory: %q, %q", f.name, two.Heads, three.Heads)
			}
		}
	}
	l := append(make([]api.Head, 0, 4), head("a", "b"), head("A", "c"))
	before := slices.Clone(l[:cap(l)])
	http.Find(l, "A")
	if !slices.Equal(l[:cap(l)], before) {
		t.Errorf("Find changes what is handed in: %q", l[:cap(l)])
	}
}

func TestP74ThereAndBack(t *testing.T) {
	r := rand.New(rand.NewPCG(7, 4))
	for range 1500 {
		behind := pick(r, "", "x", "\r\n", someBytes(r, 50), requests().first)
		q := api.Request{Method: someToken(r), Target: strings.Repeat(someToken(r), 1+r.IntN(3)), Heads: someHeads(r), Body: someBody(r)}
		s, why := http.WriteRequest(q)
		got, size, whyRead := http.ReadRequest(s+behind, pick(r, len(q.Body), api.MaxBytes))
		if why != api.OK || whyRead != api.OK || size != len(s) || got.Method != q.Method || got.Target != q.Target || !slices.Equal(got.Heads, q.Heads) || got.Body != q.Body {
			t.Fatalf("%v is written with error %d, read as %v with error %d", q, why, got, whyRead)
		}
		p := api.Response{Status: 100 + r.IntN(500), Heads: someHeads(r), Body: someBody(r)}
		s, why = http.WriteResponse(p)
		back, size, whyRead := http.ReadResponse(s+behind, pick(r, len(p.Body), api.MaxBytes))
		if why != api.OK || whyRead != api.OK || size != len(s) || back.Status != p.Status || !slices.Equal(back.Heads, p.Heads) || back.Body != p.Body {
			t.Fatalf("%v is written with error %d, read as %v with error %d", p, why, back, whyRead)
		}
	}
}

// TestP74Greatest has as much of all as may be.
func TestP74Greatest(t *testing.T) {
	var l []api.Head
	for range api.MaxHeads {
		l = append(l, head(strings.Repeat("n", 1000), strings.Repeat("\xff", api.MaxLine-1002)))
	}
	body := strings.Repeat("\n", api.MaxBytes)
	for _, f := range forms() {
		s, why := f.write(l, body)
		if why != api.OK {
			t.Fatalf("%s: write: error %d", f.name, why)
		}
		f.checkRead(t, "the greatest", s, api.MaxBytes, message{f.says, l, body})
	}
}

// TestP75BitByBit has messages that are right, or nearly so: of their beginnings the answer is ErrMore till it is another one, which then stays.
func TestP75BitByBit(t *testing.T) {
	r := rand.New(rand.NewPCG(7, 5))
	for i := range 500 {
		for _, f := range forms() {
			s, want := f.some(r)
			if len(s) > 1500 {
				continue
			}
			for n := range len(s) {
				f.checkRefused(t, "a beginning", s[:n], len(want.Body), api.ErrMore)
			}
			f.checkRead(t, "all of it", s, len(want.Body), want)
			if i%2 == 0 {
				f.checkStays(t, spoiled(r, s)+"\r\n\r\n"+someBytes(r, 9), pick(r, len(want.Body), 9))
			}
		}
	}
}

// checkStays tells that an answer that is not ErrMore stays, bit by bit.
func (f form) checkStays(t *testing.T, s string, most int) {
	t.Helper()
	begun, beginSize, beginWhy := message{}, 0, api.ErrMore
	for n := range len(s) + 1 {
		m, size, why := f.read(s[:n], most)
		if beginWhy == api.ErrMore {
			begun, beginSize, beginWhy = m, size, why
		}
		if !m.same(begun) || size != beginSize || why != beginWhy {
			t.Errorf("%s: %q is read with error %d, its beginning with error %d", f.name, s[:n], why, beginWhy)
			return
		}
	}
}

func TestP75ErrorsStay(t *testing.T) {
	for _, f := range forms() {
		for _, s := range []string{"x\r\n", "\n", strings.Repeat("x", api.MaxLine+2), f.first + "\r\nx\r\n", f.with("Content-Length: x"), f.with("Content-Length: 10"), f.with("Transfer-Encoding: x"), f.chunks("x\r\n"), f.chunks("a\r\n"), f.chunks("1\r\nxx"), f.chunks("1\r\nx\r\r"), f.chunks("0\r\nx\r\n")} {
			_, _, want := f.read(s, 9)
			for _, behind := range []string{"", "x", "\n", "\r\n", "\r\n\r\n", "0\r\n\r\n", "0123456789", f.with("Content-Length: 0")} {
				f.checkRefused(t, "an error", s+behind, 9, want)
			}
			if want != api.ErrHttp && want != api.ErrLong {
				t.Errorf("%s: read of %q: error %d", f.name, short(s), want)
			}
		}
	}
}

func TestP76Chunks(t *testing.T) {
	r := rand.New(rand.NewPCG(7, 6))
	for range 1000 {
		for _, f := range forms() {
			body := someBody(r)
			f.checkRead(t, "a body in chunks", f.with("a: b", "transfer-Encoding: Chunked")+inChunks(r, body), pick(r, len(body), api.MaxBytes), message{f.says, heads(head("a", "b")), body})
		}
	}
	body := strings.Repeat("0123456789abcdef", api.MaxBytes/16)
	for _, f := range forms() {
		for size, digits := range map[int]string{1: "1", 16: "10", 4096: "1000", api.MaxBytes: "00010000"} {
			var s strings.Builder
			for part := range slices.Chunk([]byte(body), size) {
				s.WriteString(digits + "\r\n" + string(part) + "\r\n")
			}
			f.checkRead(t, "chunks of "+digits, f.chunks(s.String()+"0\r\n\r\n"), api.MaxBytes, message{f.says, nil, body})
			f.checkRefused(t, "chunks of "+digits+", and one", f.chunks(s.String()+"1\r\n"), api.MaxBytes, api.ErrLong)
		}
	}
}

// TestP1NearlyRight holds what is read of messages that are right but for a few bytes against a model.
func TestP1NearlyRight(t *testing.T) {
	r := rand.New(rand.NewPCG(7, 11))
	count := map[api.Errno]int{}
	for range 12000 {
		for _, f := range forms() {
			s, m := f.some(r)
			count[f.checkModel(t, spoiled(r, s), pick(r, 0, 1, len(m.Body), len(m.Body), max(0, len(m.Body)-1), api.MaxBytes))]++
		}
	}
	for _, why := range []api.Errno{api.OK, api.ErrHttp, api.ErrMore, api.ErrLong} {
		if count[why] < 100 {
			t.Errorf("error %d came %d times", why, count[why])
		}
	}
}

// TestP1AnyBytes has any texts that are put together from a few.
func TestP1AnyBytes(t *testing.T) {
	r := rand.New(rand.NewPCG(7, 12))
	words := []string{"GET", " ", "/", "HTTP/1.1", "200", "\r\n", "\r\n", "\r\n", "\r", "\n", ":", "a", "Content-Length", "Transfer-Encoding", "chunked", "0", "1", "9", ";", "\t", "\x00", "\xff", "é"}
	for range 60000 {
		for _, f := range forms() {
			s := pick(r, "", f.first+"\r\n", f.first+"\r\nContent-Length:", f.chunks(""), f.chunks("1\r\n"))
			for range r.IntN(9) {
				s += pick(r, words...)
			}
			f.checkModel(t, s, pick(r, 0, 1, 2, 9, api.MaxBytes, -1, api.MaxBytes+1))
		}
	}
}

func TestP1Long(t *testing.T) {
	long := strings.Repeat("x", 1<<24)
	for _, f := range forms() {
		f.checkRefused(t, "a long line", long, api.MaxBytes, api.ErrLong)
		f.checkWrite(t, "a long name", heads(head(long, "")), "", "", api.ErrHttp)
		f.checkWrite(t, "a long value", heads(head("a", long)), "", "", api.ErrHttp)
		f.checkWrite(t, "a long body", nil, long, "", api.ErrHttp)
		f.checkWrite(t, "many heads", make([]api.Head, 1<<20), "", "", api.ErrHttp)
		f.checkRead(t, "much behind it", f.with("Content-Length: 1")+"x", 1, message{f.says, nil, "x"})
		if m, size, why := f.read(f.with("Content-Length: 1")+long, 1); m.Body != "x" || size != len(f.with("Content-Length: 1"))+1 || why != api.OK {
			t.Errorf("%s: much behind it: %d bytes, error %d", f.name, size, why)
		}
		f.checkRefused(t, "many heads of framing", f.with(slices.Repeat([]string{"content-length: 1"}, 1<<16)...), 9, api.ErrHttp)
	}
	checkWriteRequest(t, api.Request{Method: long, Target: "/"}, "", api.ErrHttp)
	checkWriteRequest(t, api.Request{Method: "GET", Target: long}, "", api.ErrHttp)
}

func TestP3AndP4AlwaysTheSame(t *testing.T) {
	before := runtime.NumGoroutine()
	for extra := range 50 {
		for _, f := range forms() {
			l := append(make([]api.Head, 0, 2+extra), head("a", "b"), head("c", "d"))
			s := f.with("a: b", "c: d", "Content-Length: 4") + "body"
			f.checkWrite(t, "once more", l, "body", s, api.OK)
			f.checkRead(t, "once more", s, 4, message{f.says, l, "body"})
			f.checkRefused(t, "once more", s, 3, api.ErrLong)
		}
	}
	for range 1000 { // one that is joined may still be on its way out
		if runtime.NumGoroutine() <= before {
			return
		}
		runtime.Gosched()
	}
	t.Errorf("%d goroutines are left", runtime.NumGoroutine()-before)
}
