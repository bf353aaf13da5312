package front

import (
	"strconv"
	"strings"

	"penstock/api"
	"penstock/fail"
)

const (
	noText = "-"
	sign   = '%'
	plain  = "abcdefghijklmnopqrstuvwxyzABCDEFGHIJKLMNOPQRSTUVWXYZ0123456789_./:*"
	digits = "0123456789ABCDEF"
)

const (
	mostGreat = 1 << 62
	mostSmall = 1<<31 - 1
)

// Word is the word of s.
func Word(s string) string {
	if s == "" {
		return noText
	}
	var w strings.Builder
	for i := range len(s) {
		b := s[i]
		if strings.IndexByte(plain, b) >= 0 {
			w.WriteByte(b)
			continue
		}
		w.WriteByte(sign)
		w.WriteByte(digits[b>>4])
		w.WriteByte(digits[b&15])
	}
	return w.String()
}

// Unword is the text whose word is w.
func Unword(w string) (string, bool) {
	s := meant(w)
	if Word(s) != w { // what is no word is not that of what is read of it
		return "", false
	}
	return s, true
}

// meant is the text of w, if w is a word.
func meant(w string) string {
	if w == noText {
		return ""
	}
	var s strings.Builder
	for i := 0; i < len(w); i++ {
		b := w[i]
		if b == sign && i+2 < len(w) {
			n, _ := strconv.ParseUint(w[i+1:i+3], 16, 8)
			b = byte(n)
			i += 2
		}
		s.WriteByte(b)
	}
	return s.String()
}

// unworded is the text of a line's word; it panics with ErrConf, if there is none.
func unworded(w string) string {
	s, is := Unword(w)
	fail.Unless(is, api.ErrConf)
	return s
}

// number is that of a word, which panics with ErrConf, if it is none.
func number(w string) uint64 {
	n, fault := strconv.ParseUint(w, 10, 64)
	fail.Unless(fault == nil && written(n) == w, api.ErrConf)
	return n
}

func great(w string) uint64 {
	n := number(w)
	fail.Unless(isGreat(n), api.ErrConf)
	return n
}

func small(w string) int {
	n := number(w)
	fail.Unless(n <= mostSmall, api.ErrConf)
	return int(n)
}

func written(n uint64) string {
	return strconv.FormatUint(n, 10)
}

func isGreat(n uint64) bool { return n <= mostGreat }
func isSmall(n int) bool    { return n >= 0 && n <= mostSmall }
