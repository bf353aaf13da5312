package message

import (
	"penstock/api"
	"penstock/fail"
	"penstock/pdata"
	"penstock/rows"
	"penstock/size"
	"penstock/value"
)

// WriteRequest is the request of d; which signals may be written is handed in.
func WriteRequest(d api.Data, may func(api.Signal) bool) (string, api.Errno) {
	s := ""
	why := fail.Caught(func() {
		n, why := size.Size(d)
		fail.On(why) // which is pdata.Check's alone
		fail.Unless(may(d.Signal), api.ErrType)
		fail.Unless(n <= api.MaxBytes, api.ErrLong)
		s = Written(func(r rows.Row) { r.Request(d) })
	})
	return s, why
}

// ReadRequest is the data of the request s; which items a record has is handed in.
func ReadRequest(s string, as api.Signal, items func(Reader) []api.Item) (api.Data, api.Errno) {
	d := api.Data{}
	why := fail.Caught(func() {
		got := api.Data{Signal: as, Groups: groups(Read(s), items)}
		fail.On(pdata.Check(got))
		ownResources(got.Groups)
		d = got
	})
	return d, why
}

func groups(request Reader, items func(Reader) []api.Item) []api.Group {
	var out []api.Group
	for _, s := range request.All(1) {
		r := Read(s)
		resource := r.Inner(1).Pairs(1)
		for _, scoped := range r.All(2) {
			g := group(Read(scoped), items)
			g.Resource = resource
			out = append(out, g)
		}
	}
	return out
}

func group(scoped Reader, items func(Reader) []api.Item) api.Group {
	scope := scoped.Inner(1)
	g := api.Group{Scope: scope.Bytes(1), Version: scope.Bytes(2), Attrs: scope.Pairs(3)}
	for _, record := range scoped.All(2) {
		g.Items = append(g.Items, items(Read(record))...)
	}
	return g
}

// ownResources gives each group a resource of its own: those of one message share theirs till it is known that there are not too many groups.
func ownResources(l []api.Group) {
	for i := range l {
		own, _ := value.Get([]api.Pair{{Value: api.Value{Pairs: l[i].Resource}}}, "")
		l[i].Resource = own.Pairs
	}
}
