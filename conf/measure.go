package conf

import (
	"strconv"
	"strings"

	"penstock/api"
)

// Millis is a time in thousandths of a second.
func Millis(s string) (uint64, api.Errno) {
	return measure(s, func(unit string) uint64 {
		switch unit {
		case "ms":
			return 1
		case "s":
			return 1000
		case "m":
			return 60 * 1000
		case "h":
			return 60 * 60 * 1000
		}
		return 0
	})
}

// Bytes is how many bytes are meant.
func Bytes(s string) (uint64, api.Errno) {
	return measure(s, func(unit string) uint64 {
		switch unit {
		case "", "B":
			return 1
		case "KiB":
			return 1 << 10
		case "MiB":
			return 1 << 20
		case "GiB":
			return 1 << 30
		}
		return 0
	})
}

// measure is as many units as s says; what is handed in tells how many one is, 0 of what is no unit.
func measure(s string, many func(unit string) uint64) (uint64, api.Errno) {
	const most = 9
	unit := strings.TrimLeft(s, digits)
	size, each := len(s)-len(unit), many(unit)
	if size < 1 || size > most || each == 0 {
		return 0, api.ErrConf
	}
	n, _ := strconv.ParseUint(s[:size], 10, 64) // there is nothing but digits
	return n * each, api.OK
}
