package http

import (
	"slices"
	"strconv"
	"strings"

	"penstock/api"
)

// write is a message with that first line.
func write(first string, heads []api.Head, body string) (string, api.Errno) {
	if len(first) > api.MaxLine || len(heads) > api.MaxHeads || len(body) > api.MaxBytes || slices.ContainsFunc(heads, isWrong) {
		return "", api.ErrHttp
	}
	var s strings.Builder
	s.WriteString(first + lineEnd)
	for _, h := range heads {
		s.WriteString(headLine(h) + lineEnd)
	}
	s.WriteString(headLine(api.Head{Name: length, Value: strconv.Itoa(len(body))}) + lineEnd)
	s.WriteString(lineEnd + body)
	return s.String(), api.OK
}

func headLine(h api.Head) string { return h.Name + ": " + h.Value }

// isWrong tells heads that may not be written: among them those of framing, which are written by themselves.
func isWrong(h api.Head) bool {
	return !isOf(h.Name, inToken) || !isValue(h.Value) || named(length)(h) || named(coding)(h) || len(headLine(h)) > api.MaxLine
}
