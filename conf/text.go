package conf

import (
	"strings"

	"penstock/api"
)

const (
	specials = "\"[]{},&*!|>'%@`"
	digits   = "0123456789"
	ofKeys   = "abcdefghijklmnopqrstuvwxyzABCDEFGHIJKLMNOPQRSTUVWXYZ" + digits + "_-/."
	mostKey  = 64
)

// What stands behind a \ in a quoted text, and what it means, one for one.
const (
	escapes = "\\\"nt"
	meant   = "\\\"\n\t"
)

func isControl(r rune) bool {
	return r < ' ' || r == 0x7f
}

func isKey(s string) bool {
	return s != "" && len(s) <= mostKey && strings.Trim(s, ofKeys) == ""
}

// isPlain tells whether s stands for itself behind a key.
func isPlain(s string) bool {
	if s == "" || strings.ContainsFunc(s, isControl) {
		return false
	}
	return !strings.ContainsAny(s[:1], specials+"# ") && !strings.HasSuffix(s, " ") && !strings.Contains(s, comment)
}

// isWord tells whether s stands for itself in a list.
func isWord(s string) bool {
	return isPlain(s) && !strings.ContainsAny(s, specials+" :")
}

// isText tells whether s may be in a config, quoted at least.
func isText(s string) bool {
	unquotable := func(r rune) bool { return isControl(r) && !strings.ContainsRune(meant, r) }
	return !isLong(s) && !strings.ContainsFunc(s, unquotable)
}

func isLong(s string) bool {
	return len(s) > api.MaxText
}
