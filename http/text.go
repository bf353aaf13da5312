package http

import (
	"strings"

	"penstock/api"
)

const (
	version = "HTTP/1.1"
	length  = "Content-Length"
	coding  = "Transfer-Encoding"
	chunked = "chunked"
	lineEnd = "\r\n"
	blanks  = " \t" // what may stand around a head's value
)

// isOf tells whether s is one or more of what is told by the function. A byte that is no UTF-8 comes to it as a rune above all ASCII, which is enough to tell it.
func isOf(s string, in func(rune) bool) bool {
	return s != "" && !strings.ContainsFunc(s, func(r rune) bool { return !in(r) })
}

func inToken(r rune) bool {
	return isLetter(r) || isDigit(r) || strings.ContainsRune("!#$%&'*+-.^_`|~", r)
}

func inTarget(r rune) bool { return r >= 0x21 && r <= 0x7e }

func inValue(r rune) bool { return r == '\t' || r >= 0x20 && r != 0x7f }

func isDigit(r rune) bool { return r >= '0' && r <= '9' }

func isLetter(r rune) bool {
	r = small(r)
	return r >= 'a' && r <= 'z'
}

// small goes by ASCII alone, as names do.
func small(r rune) rune {
	if r >= 'A' && r <= 'Z' {
		return r + 'a' - 'A'
	}
	return r
}

// isValue tells whether s may stand as it is behind a head's name.
func isValue(s string) bool {
	return s == "" || isOf(s, inValue) && s == strings.Trim(s, blanks)
}

func isStatus(n int) bool { return n >= 100 && n <= 599 }

// named tells heads of that name.
func named(name string) func(api.Head) bool {
	return func(h api.Head) bool { return alike(h.Name, name) }
}

// alike goes byte by byte, since what is no UTF-8 would be the same as a rune.
func alike(a, b string) bool {
	if len(a) != len(b) {
		return false
	}
	for i := range len(a) {
		if small(rune(a[i])) != small(rune(b[i])) {
			return false
		}
	}
	return true
}

func reason(status int) string {
	switch status {
	case 200:
		return "OK"
	case 400:
		return "Bad Request"
	case 404:
		return "Not Found"
	case 405:
		return "Method Not Allowed"
	case 408:
		return "Request Timeout"
	case 413:
		return "Content Too Large"
	case 415:
		return "Unsupported Media Type"
	case 429:
		return "Too Many Requests"
	case 503:
		return "Service Unavailable"
	}
	return "Other"
}
