package conf

import (
	"strings"

	"penstock/api"
	"penstock/fail"
)

// writer has a config's lines; it panics with ErrLong, once they are too long.
type writer struct{ strings.Builder }

func (w *writer) put(parts ...string) {
	for _, s := range parts {
		w.WriteString(s)
	}
	fail.Unless(w.Len() <= api.MaxConf, api.ErrLong)
}

func (w *writer) keys(l []api.Keyed, indent string) {
	for _, k := range l {
		w.put(indent, k.Key, ":")
		switch k.Node.Kind {
		case api.NodeText:
			w.put(" ", shown(k.Node.Text, isPlain))
		case api.NodeList:
			w.list(k.Node.List)
		}
		w.put("\n")
		w.keys(k.Node.Keys, indent+"  ")
	}
}

func (w *writer) list(l []string) {
	w.put(" [")
	for i, s := range l {
		if i > 0 {
			w.put(", ")
		}
		w.put(shown(s, isWord))
	}
	w.put("]")
}

// shown is s as it may stand there: as it is, or quoted.
func shown(s string, isBare func(string) bool) string {
	if isBare(s) {
		return s
	}
	return quoted(s)
}

func quoted(s string) string {
	var b strings.Builder
	b.WriteByte('"')
	for i := range len(s) {
		at := strings.IndexByte(meant, s[i])
		if at < 0 {
			b.WriteByte(s[i])
			continue
		}
		b.WriteByte('\\')
		b.WriteByte(escapes[at])
	}
	b.WriteByte('"')
	return b.String()
}
