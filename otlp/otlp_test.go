package otlp_test

import (
	"reflect"
	"testing"

	"penstock/api"
	"penstock/metric"
	"penstock/otlp"
	"penstock/trace"
)

func TestTargets(t *testing.T) {
	for s, want := range map[api.Signal]string{api.SignalTrace: "/v1/traces", api.SignalLog: "/v1/logs", api.SignalMetric: "/v1/metrics"} {
		if got := otlp.Target(s); got != want {
			t.Errorf("Target of %d: %s", s, got)
		}
		if got := otlp.Signal(want); got != s {
			t.Errorf("Signal of %s: %d", want, got)
		}
	}
	for _, s := range []api.Signal{api.SignalNone, api.SignalCount, 255} {
		if got := otlp.Target(s); got != "/" {
			t.Errorf("Target of %d: %s", s, got)
		}
	}
	for _, target := range []string{"", "/", "/v1/", "/v1/log", "/v1/logs/", "/V1/logs", "v1/logs", "/v1/logs?x"} {
		if got := otlp.Signal(target); got != api.SignalNone {
			t.Errorf("Signal of %q: %d", target, got)
		}
	}
}

func TestBodies(t *testing.T) {
	span := api.Item{Name: "s", Trace: "0123456789abcdef", Span: "01234567"}
	for s, x := range map[api.Signal]api.Item{api.SignalTrace: span, api.SignalLog: {Name: "l"}, api.SignalMetric: {Name: "m", Kind: api.MetricGauge}} {
		d := api.Data{Signal: s, Groups: []api.Group{{Scope: "a", Items: []api.Item{x}}}}
		body, why := otlp.Write(d)
		want, _ := trace.Write(d)
		if s == api.SignalMetric {
			want, _ = metric.Write(d)
		}
		if body != want || body == "" || why != api.OK {
			t.Errorf("Write of signal %d: %q, error %d, want %q", s, body, why, want)
		}
		if got, why := otlp.Read(body, s); !reflect.DeepEqual(got, d) || why != api.OK {
			t.Errorf("Read of signal %d: %v, error %d", s, got, why)
		}
		if got, why := otlp.Read("\xff", s); len(got.Groups) > 0 || why != api.ErrVarint {
			t.Errorf("Read of what is no message, signal %d: %v, error %d", s, got, why)
		}
	}
	for _, s := range []api.Signal{api.SignalNone, api.SignalCount, 255} {
		if body, why := otlp.Write(api.Data{Signal: s}); body != "" || why != api.ErrType {
			t.Errorf("Write of signal %d: %q, error %d", s, body, why)
		}
		if d, why := otlp.Read("", s); !reflect.DeepEqual(d, api.Data{}) || why != api.ErrType {
			t.Errorf("Read of signal %d: %v, error %d", s, d, why)
		}
	}
}
