package data_test

import (
	"strings"
	"testing"

	"gazetteer/api"
	"gazetteer/data"
)

func TestIsRecord(t *testing.T) {
	right := api.Record{Owner: "\x01a\x00", Type: api.A, Class: api.IN, TTL: 60, Data: "\x0a\x00\x00\x01"}
	for _, c := range []struct {
		what string
		do   func(r *api.Record)
		want bool
	}{
		{"as it is", func(r *api.Record) {}, true},
		{"the root", func(r *api.Record) { r.Owner = api.Root }, true},
		{"age 0", func(r *api.Record) { r.TTL = 0 }, true},
		{"the greatest age", func(r *api.Record) { r.TTL = api.MaxTTL }, true},
		{"an unknown type without data", func(r *api.Record) { r.Type, r.Data = 700, "" }, true},
		{"no owner", func(r *api.Record) { r.Owner = "" }, false},
		{"an owner that is no name", func(r *api.Record) { r.Owner = "\x01a" }, false},
		{"no class", func(r *api.Record) { r.Class = 0 }, false},
		{"class 255", func(r *api.Record) { r.Class = api.ClsAny }, false},
		{"age -1", func(r *api.Record) { r.TTL = -1 }, false},
		{"a greater age", func(r *api.Record) { r.TTL = api.MaxTTL + 1 }, false},
		{"no data", func(r *api.Record) { r.Data = "" }, false},
		{"too many data", func(r *api.Record) { r.Type, r.Data = 700, strings.Repeat("x", api.MaxData+1) }, false},
		{"type 0", func(r *api.Record) { r.Type = 0 }, false},
		{"type ANY", func(r *api.Record) { r.Type = api.ANY }, false},
	} {
		r := right
		c.do(&r)
		if got := data.IsRecord(r); got != c.want {
			t.Errorf("IsRecord, %s: %v; wanted %v", c.what, got, c.want)
		}
	}
}
