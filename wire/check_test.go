package wire_test

import (
	"strings"
	"testing"

	"gazetteer/api"
	"gazetteer/name"
	"gazetteer/wire"
)

// n gives the name that a text tells.
func n(text string) string {
	wireForm, _, e := name.Read(text, api.Root)
	if e != api.OK {
		panic(text)
	}
	return wireForm
}

// label gives a label of so many bytes in its wire form.
func label(size int) string { return string([]byte{byte(size)}) + strings.Repeat("x", size) }

func zeros(size int) string { return strings.Repeat("\x00", size) }

// name255 is a name of the most bytes, name256 of one more.
var (
	name255 = label(63) + label(63) + label(63) + label(61) + "\x00"
	name256 = label(63) + label(63) + label(63) + label(62) + "\x00"
)

func record(owner string, typ int, d string) api.Record {
	return api.Record{Owner: n(owner), Type: typ, Class: api.IN, TTL: 60, Data: d}
}

func asked(q string) []api.Question {
	return []api.Question{{Name: n(q), Type: api.A, Class: api.IN}}
}

// soa gives data of an SOA.
func soa(server, box string) string {
	return n(server) + n(box) + "\x00\x00\x00\x01\x00\x00\x00\x02\x00\x00\x00\x03\x00\x00\x00\x04\x00\x00\x00\x05"
}

// whole gives a right message that has all parts.
func whole() api.Message {
	return api.Message{
		ID: 7, Response: true, RD: true,
		Questions:  asked("www.ex."),
		Answers:    []api.Record{record("www.ex.", api.A, "\x0a\x00\x00\x01")},
		Authority:  []api.Record{record("ex.", api.NS, n("ns.ex.")), record("ex.", api.SOA, soa("ns.ex.", "h.ex."))},
		Additional: []api.Record{record("ns.ex.", api.A, "\x0a\x00\x00\x02"), {Owner: api.Root, Type: api.OPT, Class: 4096}},
	}
}

// change: what is done to a whole message.
type change struct {
	told string
	do   func(m *api.Message)
}

func rightChanges() []change {
	first := func(m *api.Message) *api.Record { return &m.Answers[0] }
	data := func(typ, class int, d string) func(m *api.Message) {
		return func(m *api.Message) { first(m).Type, first(m).Class, first(m).Data = typ, class, d }
	}
	return []change{
		{"as it is", func(m *api.Message) {}},
		{"nothing", func(m *api.Message) { *m = api.Message{} }},
		{"ID 0", func(m *api.Message) { m.ID = 0 }},
		{"ID 65535", func(m *api.Message) { m.ID = 65535 }},
		{"Opcode 15", func(m *api.Message) { m.Opcode = 15 }},
		{"Rcode 15", func(m *api.Message) { m.Rcode = 15 }},
		{"question of the root", func(m *api.Message) { m.Questions[0].Name = api.Root }},
		{"question of 255 bytes", func(m *api.Message) { m.Questions[0].Name = name255 }},
		{"question of type 0", func(m *api.Message) { m.Questions[0].Type = 0 }},
		{"question of type 65535", func(m *api.Message) { m.Questions[0].Type = 65535 }},
		{"question of class 0", func(m *api.Message) { m.Questions[0].Class = 0 }},
		{"question of class 65535", func(m *api.Message) { m.Questions[0].Class = 65535 }},
		{"owner of 255 bytes", func(m *api.Message) { first(m).Owner = name255 }},
		{"class 0", func(m *api.Message) { first(m).Class = 0 }},
		{"class 65535", func(m *api.Message) { first(m).Class = 65535 }},
		{"TTL 0", func(m *api.Message) { first(m).TTL = 0 }},
		{"TTL of all bits", func(m *api.Message) { first(m).TTL = 4294967295 }},
		{"OPT with any data", data(api.OPT, api.IN, "\x00\x01")},
		{"OPT without data", data(api.OPT, api.IN, "")},
		{"OPT of the most bytes", data(api.OPT, 512, zeros(65535))},
		{"OPT of class 254 with data", data(api.OPT, api.ClsNone, "x")},
		{"OPT of class 255 with data", data(api.OPT, api.ClsAny, "x")},
		{"A of class 254 without data", data(api.A, api.ClsNone, "")},
		{"A of class 255 without data", data(api.A, api.ClsAny, "")},
		{"A of class 254 with its data", data(api.A, api.ClsNone, "\x0a\x00\x00\x01")},
		{"A of class 255 with its data", data(api.A, api.ClsAny, "\x0a\x00\x00\x01")},
		{"MX of class 255 without data", data(api.MX, api.ClsAny, "")},
		{"ANY of class 255 without data", data(api.ANY, api.ClsAny, "")},
		{"ANY of class 254 without data", data(api.ANY, api.ClsNone, "")},
		{"type 0 of class 255 without data", data(0, api.ClsAny, "")},
		{"type 65535 of the most bytes", data(65535, api.IN, zeros(65535))},
		{"type 65280 without data", data(65280, api.IN, "")},
	}
}

func wrongChanges() []change {
	list := []change{
		{"ID -1", func(m *api.Message) { m.ID = -1 }},
		{"ID 65536", func(m *api.Message) { m.ID = 65536 }},
		{"Opcode -1", func(m *api.Message) { m.Opcode = -1 }},
		{"Opcode 16", func(m *api.Message) { m.Opcode = 16 }},
		{"Rcode -1", func(m *api.Message) { m.Rcode = -1 }},
		{"Rcode 16", func(m *api.Message) { m.Rcode = 16 }},
		{"question of no name", func(m *api.Message) { m.Questions[0].Name = "" }},
		{"question of 256 bytes", func(m *api.Message) { m.Questions[0].Name = name256 }},
		{"question of type -1", func(m *api.Message) { m.Questions[0].Type = -1 }},
		{"question of type 65536", func(m *api.Message) { m.Questions[0].Type = 65536 }},
		{"question of class -1", func(m *api.Message) { m.Questions[0].Class = -1 }},
		{"question of class 65536", func(m *api.Message) { m.Questions[0].Class = 65536 }},
		{"second question wrong", func(m *api.Message) { m.Questions = append(m.Questions, api.Question{}) }},
		{"65536 questions", func(m *api.Message) { m.Questions = repeat(m.Questions[0], 65536) }},
	}
	for _, s := range []struct {
		told string
		of   func(m *api.Message) *[]api.Record
	}{
		{"answer: ", func(m *api.Message) *[]api.Record { return &m.Answers }},
		{"authority: ", func(m *api.Message) *[]api.Record { return &m.Authority }},
		{"additional: ", func(m *api.Message) *[]api.Record { return &m.Additional }},
	} {
		for _, w := range wrongRecords() {
			list = append(list, change{s.told + w.told, func(m *api.Message) { *s.of(m) = append(*s.of(m), w.r) }})
		}
		list = append(list, change{s.told + "65536 of them", func(m *api.Message) {
			*s.of(m) = repeat(record("ex.", api.A, "\x0a\x00\x00\x01"), 65536)
		}})
	}
	return list
}

func repeat[T any](one T, count int) []T {
	list := make([]T, count)
	for i := range list {
		list[i] = one
	}
	return list
}

type toldRecord struct {
	told string
	r    api.Record
}

func wrongRecords() []toldRecord {
	const ip = "\x0a\x00\x00\x01"
	return []toldRecord{
		{"nothing", api.Record{}},
		{"owner that is no name", api.Record{Owner: "\x01", Type: api.A, Class: api.IN, Data: ip}},
		{"owner of 256 bytes", api.Record{Owner: name256, Type: api.A, Class: api.IN, Data: ip}},
		{"type -1", api.Record{Owner: api.Root, Type: -1, Class: api.ClsAny}},
		{"type 65536", api.Record{Owner: api.Root, Type: 65536, Class: api.ClsAny}},
		{"class -1", api.Record{Owner: api.Root, Type: api.A, Class: -1, Data: ip}},
		{"class 65536", api.Record{Owner: api.Root, Type: api.A, Class: 65536, Data: ip}},
		{"TTL -1", api.Record{Owner: api.Root, Type: api.A, Class: api.IN, TTL: -1, Data: ip}},
		{"TTL 4294967296", api.Record{Owner: api.Root, Type: api.A, Class: api.IN, TTL: 4294967296, Data: ip}},
		{"A without data", api.Record{Owner: api.Root, Type: api.A, Class: api.IN}},
		{"A without data, class 253", api.Record{Owner: api.Root, Type: api.A, Class: 253}},
		{"A without data, class 256", api.Record{Owner: api.Root, Type: api.A, Class: 256}},
		{"A of three bytes", api.Record{Owner: api.Root, Type: api.A, Class: api.IN, Data: ip[1:]}},
		{"A of three bytes, class 255", api.Record{Owner: api.Root, Type: api.A, Class: api.ClsAny, Data: ip[1:]}},
		{"A of three bytes, class 254", api.Record{Owner: api.Root, Type: api.A, Class: api.ClsNone, Data: ip[1:]}},
		{"type 0", api.Record{Owner: api.Root, Type: 0, Class: api.IN}},
		{"ANY of class IN", api.Record{Owner: api.Root, Type: api.ANY, Class: api.IN}},
		{"ANY of class 255 with data", api.Record{Owner: api.Root, Type: api.ANY, Class: api.ClsAny, Data: "x"}},
		{"OPT of 65536 bytes", api.Record{Owner: api.Root, Type: api.OPT, Class: api.IN, Data: zeros(65536)}},
		{"type 65535 of 65536 bytes", api.Record{Owner: api.Root, Type: 65535, Class: api.IN, Data: zeros(65536)}},
		{"NS of 256 bytes", api.Record{Owner: api.Root, Type: api.NS, Class: api.IN, Data: name256}},
	}
}

func TestCheckRight(t *testing.T) {
	for _, c := range rightChanges() {
		m := whole()
		c.do(&m)
		if e := wire.Check(m); e != api.OK {
			t.Errorf("P3.1 %s: Check = %d; wanted OK", c.told, e)
		}
	}
}

func TestCheckWrong(t *testing.T) {
	for _, c := range wrongChanges() {
		m := whole()
		c.do(&m)
		if e := wire.Check(m); e != api.ErrForm {
			t.Errorf("P3.1 %s: Check = %d; wanted ErrForm", c.told, e)
		}
		if b, e := wire.Pack(m); b != nil || e != api.ErrForm {
			t.Errorf("P3.2 %s: Pack = %d bytes, %d; wanted ErrForm", c.told, len(b), e)
		}
		if part, e := wire.Fit(m, 65535); !same(part, api.Message{}) || e != api.ErrForm {
			t.Errorf("P3.4 %s: Fit = %v, %d; wanted ErrForm", c.told, part, e)
		}
	}
}

func TestCheckMost(t *testing.T) {
	r := record("ex.", api.A, "\x0a\x00\x00\x01")
	m := api.Message{Questions: repeat(asked("ex.")[0], 65535), Answers: repeat(r, 65535), Authority: repeat(r, 65535), Additional: repeat(r, 65535)}
	if e := wire.Check(m); e != api.OK {
		t.Errorf("P3.1 65535 parts in each section: Check = %d; wanted OK", e)
	}
	if b, e := wire.Pack(m); b != nil || e != api.ErrLarge {
		t.Errorf("P3.2 65535 parts in each section: Pack = %d bytes, %d; wanted ErrLarge", len(b), e)
	}
}
