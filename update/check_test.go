package update_test

import (
	"slices"
	"strings"
	"testing"

	"gazetteer/api"
	"gazetteer/zone"
)

// TestForm: what is no update, or none of this zone.
func TestForm(t *testing.T) {
	right := func() api.Message { return changes("+ a.ex. 60 A 10.0.0.9") }
	question := func(q api.Question) func(m *api.Message) {
		return func(m *api.Message) { m.Questions[0] = q }
	}
	for _, c := range []struct {
		what string
		do   func(m *api.Message)
		want int
	}{
		{"as it is", func(m *api.Message) {}, api.NoError},
		{"all signs", func(m *api.Message) {
			m.AA, m.TC, m.RD, m.RA, m.AD, m.CD, m.Rcode, m.ID = true, true, true, true, true, true, 15, 65535
		}, api.NoError},
		{"additional records", func(m *api.Message) {
			m.Additional = []api.Record{{Owner: n("org."), Type: api.A, Class: 3, TTL: 4294967295, Data: "\x0a\x00\x00\x01"}, {Owner: api.Root, Type: api.OPT, Class: 4096, Data: "xyz"}}
		}, api.NoError},
		{"a response", func(m *api.Message) { m.Response = true }, api.FormErr},
		{"ID -1", func(m *api.Message) { m.ID = -1 }, api.FormErr},
		{"Rcode 16", func(m *api.Message) { m.Rcode = 16 }, api.FormErr},
		{"a query", func(m *api.Message) { m.Opcode = api.OpQuery }, api.FormErr},
		{"a note", func(m *api.Message) { m.Opcode = api.OpNotify }, api.FormErr},
		{"Opcode 16", func(m *api.Message) { m.Opcode = 16 }, api.FormErr},
		{"no question", func(m *api.Message) { m.Questions = nil }, api.FormErr},
		{"two questions", func(m *api.Message) { m.Questions = append(m.Questions, m.Questions[0]) }, api.FormErr},
		{"a question of type ANY", question(api.Question{Name: n("ex."), Type: api.ANY, Class: api.IN}), api.FormErr},
		{"a question of type 0", question(api.Question{Name: n("ex."), Class: api.IN}), api.FormErr},
		{"a question of class 255", question(api.Question{Name: n("ex."), Type: api.SOA, Class: api.ClsAny}), api.FormErr},
		{"a question of class 254", question(api.Question{Name: n("ex."), Type: api.SOA, Class: api.ClsNone}), api.FormErr},
		{"a question that has no name", question(api.Question{Type: api.SOA, Class: api.IN}), api.FormErr},
		{"wrong data of a condition", func(m *api.Message) {
			m.Answers = []api.Record{{Owner: n("ex."), Type: api.A, Class: api.IN, Data: "\x0a"}}
		}, api.FormErr},
		{"no data of a change", func(m *api.Message) { m.Authority[0].Data = "" }, api.FormErr},
		{"a change of type ANY", func(m *api.Message) { m.Authority[0].Type = api.ANY }, api.FormErr},
		{"a wrong additional record", func(m *api.Message) { m.Additional = []api.Record{{}} }, api.FormErr},
		{"other letters", question(api.Question{Name: n("EX."), Type: api.SOA, Class: api.IN}), api.NoError},
		{"another name", question(api.Question{Name: n("org."), Type: api.SOA, Class: api.IN}), api.NotAuth},
		{"a name within", question(api.Question{Name: n("b.ex."), Type: api.SOA, Class: api.IN}), api.NotAuth},
		{"a name above", question(api.Question{Name: api.Root, Type: api.SOA, Class: api.IN}), api.NotAuth},
		{"another name of type A", question(api.Question{Name: n("org."), Type: api.A, Class: api.IN}), api.FormErr},
	} {
		m := right()
		c.do(&m)
		checkCode(t, c.what, example(), m, c.want)
	}
	checkCode(t, "no zone", nil, right(), api.NotAuth)
	checkCode(t, "no zone, no update", nil, api.Message{}, api.FormErr)
}

// hashed gives a zone with records that don't count.
func hashed() *zone.Zone {
	return plain("h NSEC3 1 0 0 - 00 A", "h RRSIG NSEC3 253 1 60 9 8 7 ex. AAAA", "x.y.g RRSIG A 253 1 60 9 8 7 ex. AAAA",
		"EX. A 10.0.0.1", "ex. A 10.0.0.2", "Mail MX 10 A.ex.", "mail MX 20 b.ex.", "mail 70 TXT a b")
}

type codeRow struct {
	lines string // with ";" between
	want  int
}

func checkConditions(t *testing.T, z *zone.Zone, rows []codeRow) {
	t.Helper()
	for _, c := range rows {
		checkCode(t, c.lines, z, conditions(strings.Split(c.lines, ";")...), c.want)
	}
}

func TestConditions(t *testing.T) {
	checkConditions(t, example(), []codeRow{
		{"has www.ex. A", api.NoError},
		{"has WWW.Ex. A", api.NoError},
		{"has www.ex. AAAA", api.NxSet},
		{"has x.ex. A", api.NxSet},
		{"has w.ex. TXT", api.NxSet},
		{"has a.w.ex. TXT", api.NxSet}, // the star itself has it
		{"has *.w.ex. TXT", api.NoError},
		{"has ns.b.ex. A", api.NoError},
		{"has www.ex. OPT", api.NxSet},
		{"has www.ex. AXFR", api.NxSet},
		{"has x.ex. ANY", api.NxDomain},
		{"has a.w.ex. ANY", api.NxDomain},
		{"has w.ex. ANY", api.NoError},
		{"has W.EX. ANY", api.NoError},
		{"has ex. ANY", api.NoError},
		{"has ns.b.ex. ANY", api.NoError},
		{"has a.b.ex. ANY", api.NxDomain},
		{"no www.ex. A", api.YxSet},
		{"no WWW.Ex. A", api.YxSet},
		{"no www.ex. AAAA", api.NoError},
		{"no x.ex. A", api.NoError},
		{"no ex. SOA", api.YxSet},
		{"no www.ex. OPT", api.NoError},
		{"no x.ex. ANY", api.NoError},
		{"no a.w.ex. ANY", api.NoError},
		{"no w.ex. ANY", api.YxDomain},
		{"no ex. ANY", api.YxDomain},
		{"no Ns.b.ex. ANY", api.YxDomain},
		{"has org. A", api.NotZone},
		{"has . ANY", api.NotZone},
		{"no org. A", api.NotZone},
		{"is org. A 10.0.0.1", api.NotZone},
		{"has www.ex. A 10.0.0.1", api.FormErr},
		{"has org. A 10.0.0.1", api.NotZone},
		{"no x.ex. A 10.0.0.1", api.FormErr},
		{"no www.ex. A 10.0.0.1", api.FormErr},
		{"has www.ex. A;has x.ex. ANY;has x.ex. A", api.NxDomain},
		{"has www.ex. A;has x.ex. A;has x.ex. ANY", api.NxSet},
		{"no w.ex. ANY;no www.ex. A", api.YxDomain},
		{"no www.ex. A;no w.ex. ANY;has org. A", api.YxSet},
	})
	checkConditions(t, hashed(), []codeRow{
		{"has h.ex. ANY", api.NxDomain}, // what stands there doesn't count
		{"has h.ex. NSEC3", api.NoError},
		{"no h.ex. ANY", api.NoError},
		{"no h.ex. NSEC3", api.YxSet},
		{"no h.ex. RRSIG", api.YxSet},
		{"has y.g.ex. ANY", api.NoError},
		{"has g.ex. RRSIG", api.NxSet},
	})
}

// TestConditionFields: what no line can tell.
func TestConditionFields(t *testing.T) {
	for _, c := range []struct {
		r    api.Record
		want int
	}{
		{api.Record{Owner: n("www.ex."), Type: api.A, Class: api.ClsAny, TTL: 1}, api.FormErr},
		{api.Record{Owner: n("org."), Type: api.A, Class: api.ClsAny, TTL: 1}, api.FormErr},
		{api.Record{Owner: n("x.ex."), Type: api.A, Class: api.ClsNone, TTL: 1}, api.FormErr},
		{api.Record{Owner: n("www.ex."), Type: api.A, Class: api.IN, TTL: 60, Data: "\x0a\x00\x00\x01"}, api.FormErr},
		{api.Record{Owner: n("www.ex."), Type: api.A, Class: api.IN, Data: "\x0a\x00\x00\x01"}, api.NoError},
		{api.Record{Owner: n("www.ex."), Type: api.A, Class: 3, Data: "\x0a\x00\x00\x01"}, api.FormErr},
		{api.Record{Owner: n("www.ex."), Type: api.A, Class: 0, Data: "\x0a\x00\x00\x01"}, api.FormErr},
		{api.Record{Owner: n("org."), Type: api.A, Class: 3, Data: "\x0a\x00\x00\x01"}, api.NotZone},
		{api.Record{Owner: n("www.ex."), Type: 0, Class: api.ClsAny}, api.NxSet},
		{api.Record{Owner: n("www.ex."), Type: 0, Class: api.ClsNone}, api.NoError},
		{api.Record{Owner: n("www.ex."), Type: api.OPT, Class: api.ClsNone, Data: "x"}, api.FormErr},
		{api.Record{Owner: n("www.ex."), Type: api.OPT, Class: api.IN, Data: "x"}, api.NxSet},
		{api.Record{Owner: n("www.ex."), Type: api.OPT, Class: api.IN}, api.NxSet},
	} {
		m := changes()
		m.Answers = []api.Record{c.r}
		checkCode(t, told(c.r), example(), m, c.want)
	}
}

// TestJust: conditions that tell what stands there.
func TestJust(t *testing.T) {
	checkConditions(t, hashed(), []codeRow{
		{"is ex. A 10.0.0.1;is ex. A 10.0.0.2", api.NoError},
		{"is Ex. A 10.0.0.2;is eX. A 10.0.0.1;is ex. A 10.0.0.2", api.NoError},
		{"is ex. A 10.0.0.1", api.NxSet},
		{"is ex. A 10.0.0.2;is ex. A 10.0.0.2", api.NxSet},
		{"is ex. A 10.0.0.1;is ex. A 10.0.0.3", api.NxSet},
		{"is ex. A 10.0.0.1;is ex. A 10.0.0.2;is ex. A 10.0.0.3", api.NxSet},
		{"is mail.ex. MX 20 B.ex.;is mail.ex. MX 10 a.eX.", api.NoError},
		{"is mail.ex. MX 20 b.ex.;is mail.ex. MX 11 a.ex.", api.NxSet},
		{"is mail.ex. MX 20 b.ex.;is MAIL.ex. TXT a b;is mail.ex. MX 10 A.ex.", api.NoError},
		{"is mail.ex. TXT a B", api.NxSet},
		{"is mail.ex. TXT a b;is mail.ex. A 10.0.0.1", api.NxSet},
		{"is mail.ex. TXT a b;is x.ex. TXT a b", api.NxSet},
		{"is x.ex. A 10.0.0.1", api.NxSet},
		{"is h.ex. NSEC3 1 0 0 - 00 A", api.NoError},
		{"is ex. SOA ns h 7 2 3 4 5", api.NoError},
		{"is ex. SOA ns h 8 2 3 4 5", api.NxSet},
		// They are asked last.
		{"is x.ex. A 10.0.0.1;no ex. A", api.YxSet},
		{"is x.ex. A 10.0.0.1;has x.ex. ANY", api.NxDomain},
		{"is x.ex. A 10.0.0.1;has org. ANY", api.NotZone},
		{"is x.ex. A 10.0.0.1;has ex. A 10.0.0.1", api.FormErr},
		{"is ex. A 10.0.0.1;has ex. A;is ex. A 10.0.0.2;no ex. MX", api.NoError},
	})
}

func TestChanges(t *testing.T) {
	record := func(typ, class, ttl int, d string) api.Record {
		return api.Record{Owner: n("www.ex."), Type: typ, Class: class, TTL: ttl, Data: d}
	}
	for _, c := range []struct {
		r    api.Record
		want int
	}{
		{part("+ org. 60 A 10.0.0.1"), api.NotZone},
		{part("= org. A"), api.NotZone},
		{part("- . A 10.0.0.1"), api.NotZone},
		{part("+ WWW.EX. 2147483647 A 10.0.0.1"), api.NoError},
		{part("+ ex. 0 A 10.0.0.1"), api.NoError},
		{part("+ www.ex. 2147483648 A 10.0.0.1"), api.FormErr},
		{part("+ www.ex. 4294967295 A 10.0.0.1"), api.FormErr},
		{part("+ ex. 2147483648 SOA ns h 9 2 3 4 5"), api.FormErr},
		{part("+ org. 2147483648 A 10.0.0.1"), api.NotZone},
		{record(api.OPT, api.IN, 0, "x"), api.NoError},
		{record(700, api.IN, 0, ""), api.NoError},
		{record(api.A, api.ClsAny, 0, ""), api.NoError},
		{record(700, api.ClsAny, 0, ""), api.NoError},
		{record(api.ANY, api.ClsAny, 0, ""), api.NoError},
		{record(api.A, api.ClsAny, 1, ""), api.FormErr},
		{record(api.ANY, api.ClsAny, 1, ""), api.FormErr},
		{record(api.A, api.ClsAny, 0, "\x0a\x00\x00\x01"), api.FormErr},
		{record(700, api.ClsAny, 0, "x"), api.FormErr},
		{record(0, api.ClsAny, 0, ""), api.FormErr},
		{record(api.OPT, api.ClsAny, 0, ""), api.FormErr},
		{record(128, api.ClsAny, 0, ""), api.FormErr},
		{record(api.AXFR, api.ClsAny, 0, ""), api.FormErr},
		{record(254, api.ClsAny, 0, ""), api.FormErr},
		{record(256, api.ClsAny, 0, ""), api.NoError},
		{record(api.A, api.ClsNone, 0, "\x0a\x00\x00\x01"), api.NoError},
		{record(700, api.ClsNone, 0, ""), api.NoError},
		{record(api.A, api.ClsNone, 1, "\x0a\x00\x00\x01"), api.FormErr},
		{record(api.A, api.ClsNone, 0, ""), api.FormErr},
		{record(api.ANY, api.ClsNone, 0, ""), api.FormErr},
		{record(api.OPT, api.ClsNone, 0, "x"), api.FormErr},
		{record(api.OPT, api.ClsNone, 0, ""), api.FormErr},
		{record(0, api.ClsNone, 0, ""), api.FormErr},
		{record(api.A, 3, 0, "\x0a\x00\x00\x01"), api.FormErr},
		{record(api.A, 0, 0, "\x0a\x00\x00\x01"), api.FormErr},
		{record(api.A, 253, 0, "\x0a\x00\x00\x01"), api.FormErr},
	} {
		m := changes("+ a.ex. 60 A 10.0.0.1")
		m.Authority = append(m.Authority, c.r)
		checkCode(t, told(c.r), example(), m, c.want)
	}
}

// TestOrder: of all that is wrong what comes first is told.
func TestOrder(t *testing.T) {
	rows := []struct {
		what string
		do   func(m *api.Message)
		want int
	}{
		{"form", func(m *api.Message) { m.Response = true }, api.FormErr},
		{"apex", func(m *api.Message) { m.Questions[0].Name = n("org.") }, api.NotAuth},
		{"lacks", func(m *api.Message) { m.Answers = append(m.Answers, part("has x.ex. ANY")) }, api.NxDomain},
		{"there", func(m *api.Message) { m.Answers = append(m.Answers, part("no www.ex. A")) }, api.YxSet},
		{"outside", func(m *api.Message) { m.Answers = append(m.Answers, part("has org. A")) }, api.NotZone},
		{"age", func(m *api.Message) {
			r := part("has www.ex. A")
			r.TTL = 1
			m.Answers = append(m.Answers, r)
		}, api.FormErr},
		{"just", func(m *api.Message) { m.Answers = slices.Insert(m.Answers, 0, part("is www.ex. A 10.0.0.2")) }, api.NxSet},
		{"change outside", func(m *api.Message) { m.Authority = append(m.Authority, part("+ org. 1 A 10.0.0.1")) }, api.NotZone},
		{"change's age", func(m *api.Message) { m.Authority = append(m.Authority, part("+ ex. 2147483648 A 10.0.0.1")) }, api.FormErr},
	}
	for i, first := range rows {
		for _, second := range rows[i+1:] {
			m := changes()
			first.do(&m)
			second.do(&m)
			checkCode(t, first.what+" and "+second.what, example(), m, first.want)
		}
	}
	for _, c := range []struct {
		lines []string
		want  int
	}{
		{[]string{"+ ex. 2147483648 A 10.0.0.1", "+ org. 1 A 10.0.0.1"}, api.FormErr},
		{[]string{"+ org. 1 A 10.0.0.1", "+ ex. 2147483648 A 10.0.0.1"}, api.NotZone},
		{[]string{"+ *.ex. 1 NS ns", "+ org. 1 A 10.0.0.1"}, api.NotZone},
	} {
		checkCode(t, strings.Join(c.lines, ";"), example(), changes(c.lines...), c.want)
	}
}
