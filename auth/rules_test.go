package auth_test

import (
	"reflect"
	"strings"
	"testing"

	"gazetteer/api"
	"gazetteer/auth"
	"gazetteer/zone"
)

func TestNothingSaid(t *testing.T) {
	zones := []*zone.Zone{plain("ex.", "www A 10.0.0.1")}
	for what, do := range map[string]func(m *api.Message){
		"a response":                 func(m *api.Message) { m.Response = true },
		"ID -1":                      func(m *api.Message) { m.ID = -1 },
		"ID 65536":                   func(m *api.Message) { m.ID = 65536 },
		"Opcode 16":                  func(m *api.Message) { m.Opcode = 16 },
		"Opcode -1":                  func(m *api.Message) { m.Opcode = -1 },
		"Rcode 16":                   func(m *api.Message) { m.Rcode = 16 },
		"a question's name":          func(m *api.Message) { m.Questions[0].Name = "www.ex." },
		"no name":                    func(m *api.Message) { m.Questions[0].Name = "" },
		"a question's type":          func(m *api.Message) { m.Questions[0].Type = 65536 },
		"a question's class":         func(m *api.Message) { m.Questions[0].Class = -1 },
		"an owner":                   func(m *api.Message) { m.Additional = []api.Record{{Owner: "", Type: api.OPT}} },
		"an extra's age":             func(m *api.Message) { m.Additional = []api.Record{opt(4096, 1<<32)} },
		"an extra's class":           func(m *api.Message) { m.Additional = []api.Record{opt(65536, 0)} },
		"data":                       func(m *api.Message) { m.Answers = []api.Record{{Owner: api.Root, Type: api.A, Class: api.IN}} },
		"too many questions":         func(m *api.Message) { m.Questions = make([]api.Question, 65536) },
		"a response that isn't even": func(m *api.Message) { m.Response, m.ID = true, -1 },
	} {
		m := ask("www.ex.", "A")
		do(&m)
		if a, ok := auth.Answer(zones, m); ok || !reflect.DeepEqual(a, api.Message{}) {
			t.Errorf("P9.1, %s: %+v, %v", what, a, ok)
		}
	}
}

// TestToldBack: what comes back of a message, and what doesn't.
func TestToldBack(t *testing.T) {
	zones := []*zone.Zone{plain("ex.", "www A 10.0.0.1")}
	for bits := range 64 {
		is := func(bit int) bool { return bits>>bit&1 == 1 }
		m := ask("Www.eX.", "A")
		m.ID, m.Rcode = 65535-bits, bits%16
		m.RD, m.CD, m.AA, m.TC, m.RA, m.AD = is(0), is(1), is(2), is(3), is(4), is(5)
		a := said(t, zones, m)
		if a.Rcode != api.NoError || !a.AA || a.TC || a.RA || a.AD || a.RD != m.RD || a.CD != m.CD || a.ID != m.ID {
			t.Errorf("P9.1: to %+v comes %+v", m, a)
		}
	}
	for opcode := 1; opcode < 16; opcode++ {
		m := ask("www.ex.", "A")
		m.Opcode, m.CD = opcode, true
		if a := said(t, zones, m); a.Opcode != opcode || a.Rcode != api.NotImp || a.AA || len(a.Answers) > 0 {
			t.Errorf("P9.1, rule 3: to the Opcode %d comes %+v", opcode, a)
		}
	}
}

// ruled: the code of an answer that says nothing else, and the TTL of its OPT;
// -1 for one that has none.
func ruled(t *testing.T, what string, zones []*zone.Zone, m api.Message) (int, int) {
	t.Helper()
	a, ok := auth.Answer(zones, m)
	if !ok {
		t.Fatalf("P9.1, %s: nothing is answered", what)
	}
	checkBack(t, m, a)
	if a.AA || len(a.Answers)+len(a.Authority) > 0 || len(a.Additional) > 1 {
		t.Errorf("P9.1, %s: more than a code: %+v", what, a)
	}
	if len(a.Additional) == 0 {
		return a.Rcode, -1
	}
	if want := opt(4096, a.Additional[0].TTL); a.Additional[0] != want {
		t.Errorf("P9.1, %s: the extra is %+v", what, a.Additional[0])
	}
	return a.Rcode, a.Additional[0].TTL
}

// breach: how a message comes under a rule, and what it is answered by it.
type breach struct {
	what  string
	do    func(m *api.Message)
	rcode int
	ttl   int // of the OPT, if there is one besides
}

const (
	sameOpt = 0
	noOpt   = -1
	newer   = 16777216
)

func owned(owner string, r api.Record) api.Record {
	r.Owner = n(owner)
	return r
}

// breaches, by rising rules. Each can stand beside each that is of another rule.
func breaches() [][]breach {
	more := func(list ...api.Record) func(*api.Message) {
		return func(m *api.Message) { *m = with(*m, list...) }
	}
	class := func(c int) func(*api.Message) { return func(m *api.Message) { m.Questions[0].Class = c } }
	typ := func(t int) func(*api.Message) { return func(m *api.Message) { m.Questions[0].Type = t } }
	opcode := func(o int) func(*api.Message) { return func(m *api.Message) { m.Opcode = o } }
	one := list("ex.", "@ A 10.0.0.1")
	return [][]breach{
		{
			{"two extras", more(opt(4096, 0), opt(4096, 0)), api.FormErr, noOpt},
			{"three extras, other records between", more(opt(512, 32768), one[0], opt(512, 32768), one[0], opt(0, 0)), api.FormErr, noOpt},
			{"an extra that isn't the root's", more(owned("ex.", opt(4096, 32768))), api.FormErr, noOpt},
			{"the root's, and another", more(opt(4096, 0), owned("ex.", opt(4096, 0))), api.FormErr, noOpt},
			{"another, and the root's", more(owned("ex.", opt(4096, 0)), opt(4096, 0)), api.FormErr, noOpt},
		},
		{
			{"version 1", more(opt(4096, 65536)), api.NoError, newer},
			{"version 128", more(opt(0, 128<<16)), api.NoError, newer},
			{"version 255, and all else", more(opt(65535, 1<<32-1)), api.NoError, newer + 32768},
			{"version 1, proofs wanted", more(one[0], opt(512, 65536+32768), one[0]), api.NoError, newer + 32768},
		},
		{
			{"Opcode 1", opcode(1), api.NotImp, sameOpt},
			{"an update", opcode(api.OpUpdate), api.NotImp, sameOpt},
			{"Opcode 15", opcode(15), api.NotImp, sameOpt},
		},
		{
			{"two questions", func(m *api.Message) { m.Questions = append(m.Questions, m.Questions[0]) }, api.FormErr, sameOpt},
			{"an answer", func(m *api.Message) { m.Answers = one }, api.FormErr, sameOpt},
			{"an authority record", func(m *api.Message) { m.Authority = one }, api.FormErr, sameOpt},
			{"an OPT as an answer", func(m *api.Message) { m.Answers = []api.Record{opt(4096, 65536)} }, api.FormErr, sameOpt},
		},
		{
			{"class 0", class(0), api.Refused, sameOpt},
			{"class 3", class(3), api.Refused, sameOpt},
			{"class 254", class(254), api.Refused, sameOpt},
			{"class 256", class(256), api.Refused, sameOpt},
		},
		{
			{"type 0", typ(0), api.FormErr, sameOpt},
			{"type OPT", typ(api.OPT), api.FormErr, sameOpt},
			{"type AXFR", typ(api.AXFR), api.Refused, sameOpt},
			{"type IXFR", typ(api.IXFR), api.Refused, sameOpt},
			{"type 128", typ(128), api.NotImp, sameOpt},
			{"type 200", typ(200), api.NotImp, sameOpt},
			{"type 250", typ(250), api.NotImp, sameOpt},
			{"type 253", typ(253), api.NotImp, sameOpt},
			{"type 254", typ(254), api.NotImp, sameOpt},
		},
		{
			{"a name that no zone has", func(m *api.Message) { m.Questions[0].Name = n("www.org.") }, api.Refused, sameOpt},
		},
	}
}

func checkBreach(t *testing.T, what string, zones []*zone.Zone, m api.Message, b breach) {
	t.Helper()
	wantTTL := b.ttl
	if b.ttl == sameOpt {
		wantTTL = noOpt
		if list := opts(m); len(list) == 1 {
			wantTTL = list[0].TTL & 32768
		}
	}
	if rcode, ttl := ruled(t, what, zones, m); rcode != b.rcode || ttl != wantTTL {
		t.Errorf("P9.1, %s: code %d, extra %d; wanted %d, %d", what, rcode, ttl, b.rcode, wantTTL)
	}
}

func TestRules(t *testing.T) {
	zones := []*zone.Zone{nil, plain("ex.", "www A 10.0.0.1")}
	for at, rule := range breaches() {
		for _, b := range rule {
			m := ask("www.ex.", "A")
			b.do(&m)
			checkBreach(t, b.what, zones, m, b)
			if at < 2 {
				continue
			}
			for _, ttl := range []int{0, 32768, 1<<24 | 32768 | 7, 255 << 24} {
				checkBreach(t, b.what+", with an extra", zones, with(m, opt(1000, ttl)), b)
			}
		}
	}
}

// TestRulesOrder: of two that hold the first decides.
func TestRulesOrder(t *testing.T) {
	zones := []*zone.Zone{plain("ex.", "www A 10.0.0.1"), nil}
	rules := breaches()
	for at, rule := range rules {
		for _, b := range rule {
			for _, later := range rules[at+1:] {
				for _, c := range later {
					m := ask("www.ex.", "A")
					// What changes all questions comes last.
					c.do(&m)
					b.do(&m)
					checkBreach(t, b.what+" and "+c.what, zones, m, b)
				}
			}
		}
	}
}

func TestNoQuestion(t *testing.T) {
	zones := []*zone.Zone{plain("ex.")}
	b := breach{"no question", nil, api.FormErr, sameOpt}
	checkBreach(t, b.what, zones, api.Message{}, b)
	checkBreach(t, b.what, zones, with(api.Message{ID: 65535}, opt(0, 32768)), b)
	b.rcode = api.NotImp
	checkBreach(t, "a notice without a question", zones, api.Message{Opcode: api.OpNotify}, b)
}

// TestAskedFor: types and classes that no rule keeps from being looked for.
func TestAskedFor(t *testing.T) {
	zones := []*zone.Zone{plain("ex.", "www TYPE127 \\# 1 aa", "www TYPE256 \\# 1 bb", "www TYPE65535 \\# 1 cc")}
	for typ, want := range map[int]int{127: 1, 255: 3, 256: 1, 65535: 1, 1: 0, 40: 0, 42: 0, 65534: 0} {
		for _, class := range []int{api.IN, api.ClsAny} {
			m := ask("www.ex.", "A")
			m.Questions[0].Type, m.Questions[0].Class = typ, class
			// What stands among the additional records says nothing.
			m = with(m, list("ex.", "www A 10.0.0.1", "@ SOA ns h 1 2 3 4 5")...)
			a := said(t, zones, m)
			if a.Rcode != api.NoError || !a.AA || len(a.Answers) != want || len(a.Additional) != 0 {
				t.Errorf("P9.1 of the type %d and the class %d: %q", typ, class, tell(a))
			}
		}
	}
	if got := strings.Join(tell(said(t, zones, ask("www.ex.", "ANY"))), "; "); got != `rcode 0 aa; an www.ex. 60 TYPE127 \# 1 aa; an www.ex. 60 TYPE256 \# 1 bb; an www.ex. 60 TYPE65535 \# 1 cc` {
		t.Error("P9.1 of ANY: " + got)
	}
}

func TestNoZones(t *testing.T) {
	b := breach{"no zones", nil, api.Refused, sameOpt}
	for _, zones := range [][]*zone.Zone{nil, {}, {nil}, {nil, nil}} {
		checkBreach(t, b.what, zones, ask("ex.", "A"), b)
		checkBreach(t, b.what, zones, proved(ask(".", "DS")), b)
	}
}
