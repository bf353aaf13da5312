// Package otlp has what the server and the exporters share of requests of telemetry: where those of each signal go, of what type they are, and how their bodies are written and read.
package otlp

import (
	"penstock/api"
	"penstock/metric"
	"penstock/trace"
)

// What each request of telemetry has.
const (
	Post        = "POST"
	ContentType = "Content-Type"
	Protobuf    = "application/x-protobuf"
)

const (
	traces  = "/v1/traces"
	logs    = "/v1/logs"
	metrics = "/v1/metrics"
	other   = "/"
)

// Target is where the signal's requests go.
func Target(s api.Signal) string {
	switch s {
	case api.SignalTrace:
		return traces
	case api.SignalLog:
		return logs
	case api.SignalMetric:
		return metrics
	}
	return other
}

// Signal is that whose requests go to the target, if there is one.
func Signal(target string) api.Signal {
	switch target {
	case traces:
		return api.SignalTrace
	case logs:
		return api.SignalLog
	case metrics:
		return api.SignalMetric
	}
	return api.SignalNone
}

// Write is the body of the request of d.
func Write(d api.Data) (string, api.Errno) {
	if d.Signal == api.SignalMetric {
		return metric.Write(d)
	}
	return trace.Write(d)
}

// Read is the data that the body of a signal's request has.
func Read(body string, as api.Signal) (api.Data, api.Errno) {
	if as == api.SignalMetric {
		return metric.Read(body)
	}
	return trace.Read(body, as)
}
