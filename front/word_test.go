package front_test

import (
	"fmt"
	"math/rand/v2"
	"strings"
	"testing"

	"penstock/front"
)

func checkWord(t *testing.T, s, want string) {
	t.Helper()
	if w := front.Word(s); w != want {
		t.Errorf("Word of %q: %q, want %q", s, w, want)
	}
	if back, is := front.Unword(want); back != s || !is {
		t.Errorf("Unword of %q: %q, %v, want %q", want, back, is, s)
	}
}

func checkNoWord(t *testing.T, w string) {
	t.Helper()
	if s, is := front.Unword(w); s != "" || is {
		t.Errorf("Unword of %q: %q, %v", w, s, is)
	}
}

func TestP201Word(t *testing.T) {
	for s, want := range map[string]string{
		"": "-", "-": "%2D", "--": "%2D%2D", "a-b": "a%2Db", "a": "a", "Z": "Z", "0": "0", "9": "9", "_./:*": "_./:*", ",": "%2C", "a,b": "a%2Cb", " ": "%20", "%": "%25", "%20": "%2520",
		"x\r\n": "x%0D%0A", "\x00": "%00", "\xff": "%FF", "ä": "%C3%A4", "(": "%28", ")": "%29", "+": "%2B", ";": "%3B", "@": "%40", "[": "%5B", "^": "%5E", "`": "%60", "{": "%7B", "~": "%7E", "\x7f": "%7F",
		"GET /x HTTP/1.1\r\n\r\n": "GET%20/x%20HTTP/1.1%0D%0A%0D%0A", "\xab\xcd\xef": "%AB%CD%EF", "r": "r",
	} {
		checkWord(t, s, want)
	}
	checkWord(t, strings.Repeat("a%", 100000), strings.Repeat("a%25", 100000))
}

// TestP201Bytes has each byte, alone and among others, there and back.
func TestP201Bytes(t *testing.T) {
	plain := "ABCDEFGHIJKLMNOPQRSTUVWXYZabcdefghijklmnopqrstuvwxyz0123456789_./:*"
	for i := range 256 {
		s := string([]byte{byte(i)})
		want := s
		if !strings.Contains(plain, s) {
			want = fmt.Sprintf("%%%X%X", i/16, i%16)
		}
		checkWord(t, s, want)
		checkWord(t, "a"+s+"b", "a"+want+"b")
		checkWord(t, s+s, want+want)
		for _, w := range []string{fmt.Sprintf("%%%02X", i), fmt.Sprintf("%%%02x", i)} {
			if w != want {
				checkNoWord(t, w)
				checkNoWord(t, "a"+w)
				checkNoWord(t, w+"b")
			}
		}
	}
}

func TestP201Unword(t *testing.T) {
	for _, w := range []string{
		"", "--", "-a", "a-", "a-b", "%", "%%", "%2", "a%2", "%2D%", "%2D%2", "%-", "%2-", "%41", "%61", "%30", "%5F", "%2E", "%2F", "%3A", "%2A", "%2d", "%c3%A4", "%2G", "%G0", "% 2", "%+2", "%0x", "%2_",
		" ", "a b", "a ", " a", ",", "a,b", "\n", "a\n", "\r", "\x00", "\x7f", "ä", "\xff", "%25%", "%%25", "%2520%2",
	} {
		checkNoWord(t, w)
	}
	checkWord(t, "-", "%2D")
	checkWord(t, "%2D", "%252D")
}

// TestP201All has all that have up to two bytes, and three behind a %.
func TestP201All(t *testing.T) {
	words := map[string]string{}
	for i := range 256 {
		s := string([]byte{byte(i)})
		words[wordOf(s)] = s
	}
	words["-"] = ""
	try := func(w string) {
		s, is := front.Unword(w)
		want, known := words[w]
		if len(w) == 2 {
			a, isA := words[w[:1]]
			b, isB := words[w[1:]]
			want, known = a+b, isA && isB && w[0] != '-' && w[1] != '-'
		}
		if !known {
			want = ""
		}
		if s != want || is != known {
			t.Errorf("Unword of %q: %q, %v, want %q, %v", w, s, is, want, known)
		}
	}
	for i := range 256 {
		try(string([]byte{byte(i)}))
		for k := range 256 {
			try(string([]byte{byte(i), byte(k)}))
			try(string([]byte{'%', byte(i), byte(k)}))
		}
	}
}

// TestP205Words has any texts, and words with something changed.
func TestP205Words(t *testing.T) {
	r := rand.New(rand.NewPCG(20, 5))
	for range 20000 {
		b := make([]byte, r.IntN(12))
		for i := range b {
			b[i] = pick(r, byte(r.IntN(256)), "ab%-, "[r.IntN(6)])
		}
		w := front.Word(string(b))
		if s, is := front.Unword(w); s != string(b) || !is || w != wordOf(string(b)) {
			t.Errorf("Word of %q: %q, and back %q, %v", b, w, s, is)
		}
		if s, is := front.Unword(string(b)); is && front.Word(s) != string(b) || !is && s != "" {
			t.Errorf("Unword of %q: %q, %v", b, s, is)
		}
		other := []byte(w)
		other[r.IntN(len(other))] = pick(r, byte(r.IntN(256)), "ab%-, 29AF"[r.IntN(10)])
		if s, is := front.Unword(string(other)); is && front.Word(s) != string(other) || !is && s != "" {
			t.Errorf("Unword of %q: %q, %v", other, s, is)
		}
	}
}
