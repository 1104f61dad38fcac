package data_test

import (
	"slices"
	"strings"
	"testing"

	"gazetteer/api"
	"gazetteer/data"
)

func TestIsRecord(t *testing.T) {
	right := api.Record{Owner: "\x01a\x00", Type: api.A, Class: api.IN, TTL: 60, Data: "\x0a\x00\x00\x01"}
	for _, c := range []struct {
		what string
		do   func(r *api.Record)
		want bool
	}{
		{"as it is", func(r *api.Record) {}, true},
		{"the root", func(r *api.Record) { r.Owner = api.Root }, true},
		{"age 0", func(r *api.Record) { r.TTL = 0 }, true},
		{"the greatest age", func(r *api.Record) { r.TTL = api.MaxTTL }, true},
		{"an unknown type without data", func(r *api.Record) { r.Type, r.Data = 700, "" }, true},
		{"no owner", func(r *api.Record) { r.Owner = "" }, false},
		{"an owner that is no name", func(r *api.Record) { r.Owner = "\x01a" }, false},
		{"no class", func(r *api.Record) { r.Class = 0 }, false},
		{"class 255", func(r *api.Record) { r.Class = api.ClsAny }, false},
		{"age -1", func(r *api.Record) { r.TTL = -1 }, false},
		{"a greater age", func(r *api.Record) { r.TTL = api.MaxTTL + 1 }, false},
		{"no data", func(r *api.Record) { r.Data = "" }, false},
		{"too many data", func(r *api.Record) { r.Type, r.Data = 700, strings.Repeat("x", api.MaxData+1) }, false},
		{"type 0", func(r *api.Record) { r.Type = 0 }, false},
		{"type ANY", func(r *api.Record) { r.Type = api.ANY }, false},
	} {
		r := right
		c.do(&r)
		if got := data.IsRecord(r); got != c.want {
			t.Errorf("IsRecord, %s: %v; wanted %v", c.what, got, c.want)
		}
	}
}

func TestSenseOf(t *testing.T) {
	one := api.Record{Owner: "\x01a\x00", Type: api.MX, Class: api.IN, TTL: 60, Data: "\x00\x41\x01b\x00"}
	for _, c := range []struct {
		what string
		do   func(r *api.Record)
		want bool
	}{
		{"the same", func(r *api.Record) {}, true},
		{"another age", func(r *api.Record) { r.TTL = 0 }, true},
		{"letters of the owner", func(r *api.Record) { r.Owner = "\x01A\x00" }, true},
		{"letters of a name in the data", func(r *api.Record) { r.Data = "\x00\x41\x01B\x00" }, true},
		{"another owner", func(r *api.Record) { r.Owner = "\x01b\x00" }, false},
		{"another type", func(r *api.Record) { r.Type = 700 }, false},
		{"other data", func(r *api.Record) { r.Data = "\x00\x41\x01c\x00" }, false},
		// These bytes are no letters.
		{"another number", func(r *api.Record) { r.Data = "\x00\x61\x01b\x00" }, false},
	} {
		r := one
		c.do(&r)
		if got := data.SenseOf(r) == data.SenseOf(one); got != c.want {
			t.Errorf("SenseOf, %s: %v; wanted %v", c.what, got, c.want)
		}
	}
}

func TestIsSet(t *testing.T) {
	mx := func(owner, d string) api.Record {
		return api.Record{Owner: owner, Type: api.MX, Class: api.IN, TTL: 60, Data: d}
	}
	one, two, three := mx("\x01a\x00", "\x00\x41\x01b\x00"), mx("\x01A\x00", "\x00\x61\x01b\x00"), mx("\x01a\x00", "\x00\x41\x01c\x00")
	two.TTL = 0
	with := func(do func(r *api.Record)) []api.Record {
		r := three
		do(&r)
		return []api.Record{one, two, r}
	}
	for _, c := range []struct {
		what string
		list []api.Record
		want bool
	}{
		{"none", nil, false},
		{"an empty list", []api.Record{}, false},
		{"one", []api.Record{one}, true},
		{"three", []api.Record{one, two, three}, true},
		{"RRSIG", []api.Record{{Owner: "\x00", Type: api.RRSIG, Class: api.IN, Data: "\x00" + strings.Repeat("\x01", 17) + "\x00\x01"}}, true},
		{"twice", []api.Record{one, two, one}, false},
		{"twice at once", []api.Record{one, one}, false},
		{"twice in other letters", with(func(r *api.Record) { r.Data = "\x00\x41\x01B\x00" }), false},
		{"twice with another age", with(func(r *api.Record) { r.Data, r.TTL = one.Data, 61 }), false},
		{"another owner", with(func(r *api.Record) { r.Owner = "\x01b\x00" }), false},
		{"another type", with(func(r *api.Record) { r.Type = 700 }), false},
		{"another class", with(func(r *api.Record) { r.Class = 3 }), false},
		{"age -1", with(func(r *api.Record) { r.TTL = -1 }), false},
		{"no data", with(func(r *api.Record) { r.Data = "" }), false},
		{"no name", with(func(r *api.Record) { r.Owner = "a" }), false},
		{"one that is wrong", []api.Record{{}}, false},
	} {
		before := slices.Clone(c.list)
		if got := data.IsSet(c.list); got != c.want {
			t.Errorf("IsSet, %s: %v; wanted %v", c.what, got, c.want)
		}
		slices.Reverse(c.list)
		if got := data.IsSet(c.list); got != c.want {
			t.Errorf("IsSet, %s, back to front: %v; wanted %v", c.what, got, c.want)
		}
		slices.Reverse(c.list)
		if !slices.Equal(before, c.list) {
			t.Errorf("IsSet, %s: the list was changed", c.what)
		}
	}
}

func TestTarget(t *testing.T) {
	for _, c := range []struct {
		typ        int
		data, want string
	}{
		{api.NS, "\x01A\x00", "\x01A\x00"},
		{api.MX, "\x00\x01\x01b\x00", "\x01b\x00"},
		{api.MX, "\x00\x01\x00", api.Root},
		{api.SRV, "\x00\x01\x00\x01\x00\x01\x01c\x00", "\x01c\x00"},
		{api.CNAME, "\x01a\x00", ""},
		{api.PTR, "\x01a\x00", ""},
		{api.A, "\x0a\x00\x00\x01", ""},
		{api.MX, "\x00", ""},
		{api.NS, "", ""},
	} {
		if got := data.Target(api.Record{Type: c.typ, Data: c.data}); got != c.want {
			t.Errorf("Target of the type %d, %q: %q; wanted %q", c.typ, c.data, got, c.want)
		}
	}
}

func TestAgeOfAbsence(t *testing.T) {
	head := "\x01a\x00\x00" + strings.Repeat("\xff", 16)
	for _, c := range []struct {
		age     int
		minimum string
		want    int
	}{
		{60, "\x00\x00\x00\x3b", 59},
		{60, "\x00\x00\x00\x3c", 60},
		{60, "\x00\x00\x00\x3d", 60},
		{60, "\x00\x00\x00\x00", 0},
		{0, "\xff\xff\xff\xff", 0},
		{api.MaxTTL, "\x7f\xff\xff\xfe", api.MaxTTL - 1},
		{api.MaxTTL, "\xff\xff\xff\xff", api.MaxTTL},
	} {
		if got := data.AgeOfAbsence(api.Record{Type: api.SOA, TTL: c.age, Data: head + c.minimum}); got != c.want {
			t.Errorf("AgeOfAbsence of the age %d, minimum %x: %d; wanted %d", c.age, c.minimum, got, c.want)
		}
	}
}

func TestBeyond(t *testing.T) {
	one := api.Record{Owner: "\x01a\x00", Type: api.MX, Class: api.IN, TTL: 60, Data: "\x00\x01\x01b\x00"}
	two := one
	two.Data = "\x00\x02\x01b\x00"
	list := []api.Record{two, one, two}
	for _, c := range []struct {
		what   string
		others []api.Record
		want   []api.Record
	}{
		{"none", nil, list},
		{"one", []api.Record{one}, []api.Record{two, two}},
		{"two", []api.Record{two}, []api.Record{one}},
		{"both", []api.Record{one, two}, nil},
		{"letters of the owner", []api.Record{two, {Owner: "\x01A\x00", Type: one.Type, Class: one.Class, TTL: one.TTL, Data: one.Data}}, []api.Record{one}},
		{"letters of the data", []api.Record{two, {Owner: one.Owner, Type: one.Type, Class: one.Class, TTL: one.TTL, Data: "\x00\x01\x01B\x00"}}, []api.Record{one}},
		{"another age", []api.Record{two, {Owner: one.Owner, Type: one.Type, Class: one.Class, TTL: 61, Data: one.Data}}, []api.Record{one}},
	} {
		if got := data.Beyond(list, c.others); !slices.Equal(got, c.want) {
			t.Errorf("Beyond, %s: %v; wanted %v", c.what, got, c.want)
		}
	}
	if !slices.Equal(list, []api.Record{two, one, two}) {
		t.Error("Beyond changed the list")
	}
}
