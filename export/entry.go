package export

import (
	"strconv"

	"penstock/api"
	"penstock/fail"
	"penstock/http"
	"penstock/otlp"
	"penstock/pdata"
)

// digitSize is how many bytes of an entry's data tell the signal; the message stands behind them.
const digitSize = 1

// written is an entry's data of d, which are not too long.
func written(d api.Data) string {
	message, why := otlp.Write(d)
	fail.On(why)
	return strconv.Itoa(int(d.Signal)) + message
}

// cut is the signal and the message of an entry's data; anyone may have made these.
func cut(data string) (api.Signal, string) {
	if len(data) < digitSize {
		return api.SignalNone, ""
	}
	digit, message := data[:digitSize], data[digitSize:]
	switch digit {
	case "1":
		return api.SignalTrace, message
	case "2":
		return api.SignalLog, message
	case "3":
		return api.SignalMetric, message
	}
	return api.SignalNone, message
}

// items is how many an entry's data have.
func items(data string) int {
	as, message := cut(data)
	d, _ := otlp.Read(message, as) // none, if the message is not read
	return pdata.Items(d)
}

// request is by which an entry's data are sent.
func request(data string) string {
	as, message := cut(data)
	s, _ := http.WriteRequest(api.Request{ // which is right: a queue's entry is short enough for a body
		Method: otlp.Post,
		Target: otlp.Target(as),
		Heads: []api.Head{
			{Name: "Host", Value: "backend"},
			{Name: otlp.ContentType, Value: otlp.Protobuf},
		},
		Body: message,
	})
	return s
}
