package policy_test

import (
	"reflect"
	"slices"
	"testing"

	"gazetteer/api"
	"gazetteer/auth"
	"gazetteer/policy"
	"gazetteer/zone"
)

// question gives a message that asks for a name and a type.
func question(text string, typ int) api.Message {
	return api.Message{ID: 7, RD: true, Questions: []api.Question{{Name: n(text), Type: typ, Class: api.IN}}}
}

// extra gives an OPT.
func extra(ttl int) api.Record {
	return api.Record{Owner: api.Root, Type: api.OPT, Class: 4096, TTL: ttl}
}

// full gives an answer that has something in each field. Its questions aren't
// those of the message that it answers, so that it is seen whose are taken.
func full() api.Message {
	return api.Message{
		ID: 9, Response: true, Opcode: 3, AA: true, TC: true, RD: true, RA: true, AD: true, CD: true, Rcode: api.Refused,
		Questions:  []api.Question{{Name: n("q"), Type: api.MX, Class: 3}, {Name: n("r")}},
		Answers:    append(list("www A 10.0.0.1", "www A 10.0.0.2"), extra(1)),
		Authority:  append(list("@ NS ns"), extra(2)),
		Additional: append([]api.Record{extra(3)}, append(list("ns A 10.0.0.3", "ns AAAA ::3"), extra(4), extra(5))...),
	}
}

// stripped gives that without what it tells.
func stripped(rcode int) api.Message {
	m := full()
	m.AA, m.Rcode = false, rcode
	m.Answers, m.Authority = nil, nil
	m.Additional = []api.Record{extra(3), extra(4), extra(5)}
	return m
}

// isLike: are two messages the same? Lists without anything may be nil.
func isLike(a, b api.Message) bool {
	same := slices.Equal(a.Questions, b.Questions) && slices.Equal(a.Answers, b.Answers) &&
		slices.Equal(a.Authority, b.Authority) && slices.Equal(a.Additional, b.Additional)
	for _, m := range []*api.Message{&a, &b} {
		m.Questions, m.Answers, m.Authority, m.Additional = nil, nil, nil, nil
	}
	return same && reflect.DeepEqual(a, b)
}

func TestFilterKinds(t *testing.T) {
	saying := func(line string) api.Message {
		m := stripped(api.NoError)
		m.Answers = list(line)
		return m
	}
	for _, c := range []struct {
		rule string
		ask  string
		typ  int
		want api.Message
		ok   bool
	}{
		{"pass www", "www", api.A, full(), true},
		{"drop www", "www", api.A, api.Message{}, false},
		{"noname www", "www", api.A, stripped(api.NxDomain), true},
		{"nodata www", "www", api.A, stripped(api.NoError), true},
		{"say www 300 A 10.9.9.9", "www", api.A, saying("www 300 A 10.9.9.9"), true},
		{"say www 0 A 10.9.9.9", "WwW", api.A, saying("WwW 0 A 10.9.9.9"), true}, // the question's letters
		{"say www A 10.9.9.9", "www", api.AAAA, stripped(api.NoError), true},
		{"say www A 10.9.9.9", "www", api.CNAME, stripped(api.NoError), true},
		{"say www A 10.9.9.9", "www", api.ANY, saying("www A 10.9.9.9"), true},
		{"say www CNAME Other.ex.", "www", api.A, saying("www CNAME Other.ex."), true},
		{"say www CNAME other", "www", api.CNAME, saying("www CNAME other"), true},
		{"say www CNAME other", "www", api.ANY, saying("www CNAME other"), true},
		{"say www CNAME other", "www", 0, saying("www CNAME other"), true},
		{"say www TXT hi", "www", 254, stripped(api.NoError), true},
		{"say www TXT hi", "www", -1, stripped(api.NoError), true},
		{"*pass @", "www", api.A, full(), true},
		{"*drop @", "www", api.A, api.Message{}, false},
		{"*noname @", "www", api.A, stripped(api.NxDomain), true},
		{"*nodata @", "www", api.A, stripped(api.NoError), true},
		{"*say @ 5 TXT hi", "a.www", api.TXT, saying("a.www 5 TXT hi"), true},
		{"drop www", "a.www", api.A, full(), true}, // it doesn't speak of it
		{"*drop www", "www", api.A, full(), true},
	} {
		got, ok := policy.Filter(rules(c.rule), question(c.ask, c.typ), full())
		if !isLike(got, c.want) || ok != c.ok {
			t.Errorf("P15.4 %s, asked for %s, %d: %+v, %v; wanted %+v", c.rule, c.ask, c.typ, got, ok, c.want)
		}
	}
}

// TestFilterQuestions: a message that hasn't just one question of a name is
// passed by, whatever the rules say.
func TestFilterQuestions(t *testing.T) {
	all := rules("drop .", "*drop .")
	one := question("www", api.A)
	none, two, wrong := one, one, one
	none.Questions = nil
	two.Questions = append(slices.Clone(one.Questions), one.Questions[0])
	wrong.Questions = []api.Question{{Name: "www.ex.", Type: api.A, Class: api.IN}}
	for _, m := range []api.Message{none, two, wrong, {}} {
		if got, ok := policy.Filter(all, m, full()); !isLike(got, full()) || !ok {
			t.Errorf("P15.4 with questions %+v: %+v, %v", m.Questions, got, ok)
		}
	}
	if _, ok := policy.Filter(all, one, full()); ok {
		t.Error("P15.4: one question isn't dropped")
	}
	for _, list := range [][]api.Rule{nil, {}, rules("drop a"), {{Name: n("www"), Kind: 5}}} {
		if got, ok := policy.Filter(list, one, full()); !isLike(got, full()) || !ok {
			t.Errorf("P15.4 with the rules %+v: %+v, %v", list, got, ok)
		}
	}
	// The class of the question says nothing, and neither does the rest of m.
	other := one
	other.Response, other.Opcode, other.Answers = true, 5, list("www A 10.0.0.9")
	other.Questions = []api.Question{{Name: n("www"), Type: api.A, Class: 3}}
	if got, ok := policy.Filter(rules("nodata www"), other, full()); !isLike(got, stripped(api.NoError)) || !ok {
		t.Errorf("P15.4: %+v, %v", got, ok)
	}
}

// TestFilterCounts: it is the rule that counts which decides.
func TestFilterCounts(t *testing.T) {
	list := rules("*drop .", "*noname ads", "pass good.ads", "say ads A 10.9.9.9", "nodata good.ads")
	for _, c := range []struct {
		ask   string
		rcode int
		ok    bool
	}{
		{".", api.Refused, true},
		{"ex.", 0, false},
		{"x.ads", api.NxDomain, true},
		{"good.ads", api.Refused, true},
		{"x.good.ads", api.NxDomain, true},
		{"ADS", api.NoError, true},
	} {
		if got, ok := policy.Filter(list, question(c.ask, api.A), full()); got.Rcode != c.rcode || ok != c.ok {
			t.Errorf("P15.4 %s: %+v, %v", c.ask, got, ok)
		}
	}
}

// TestFilterServer: what a server answers, filtered.
func TestFilterServer(t *testing.T) {
	z, _, e := zone.New(n("ex."), list("@ SOA ns h 1 2 3 4 5", "@ NS ns", "ns A 10.0.0.1", "www A 10.0.0.2", "www MX 10 ns"))
	if e != api.OK {
		t.Fatal(e)
	}
	for _, c := range []struct {
		rule               string
		ask                string
		typ                int
		aa                 bool
		rcode              int
		an, au, additional string
	}{
		{"pass www", "www", api.MX, true, 0, "www.ex. 60 MX 10 ns.ex.", "", "ns.ex. 60 A 10.0.0.1"},
		{"pass x", "x", api.A, true, 3, "", "ex. 5 SOA ns.ex. h.ex. 1 2 3 4 5", ""},
		{"noname www", "www", api.MX, false, 3, "", "", ""},
		{"nodata x", "x", api.A, false, 0, "", "", ""},
		{"say x 7 A 10.9.9.9", "x", api.A, false, 0, "x.ex. 7 A 10.9.9.9", "", ""},
		{"say org. 7 A 10.9.9.9", "org.", api.ANY, false, 0, "org. 7 A 10.9.9.9", "", ""}, // Refused otherwise
	} {
		m := question(c.ask, c.typ)
		m.Additional = []api.Record{extra(0)}
		answer, ok := auth.Answer([]*zone.Zone{z}, m)
		if !ok {
			t.Fatal(c.ask)
		}
		got, ok := policy.Filter(rules(c.rule), m, answer)
		rest := slices.DeleteFunc(slices.Clone(got.Additional), func(r api.Record) bool { return r == extra(0) })
		if !ok || got.ID != 7 || !got.Response || !got.RD || !slices.Equal(got.Questions, m.Questions) || got.AA != c.aa || got.Rcode != c.rcode ||
			tell(got.Answers) != c.an || tell(got.Authority) != c.au || tell(rest) != c.additional || len(got.Additional) != len(rest)+1 {
			t.Errorf("P15.4 %s, %s: %+v, %v", c.rule, c.ask, got, ok)
		}
	}
}

// modelFilter tells by the words of the chapter, one field behind the other.
func modelFilter(list []api.Rule, m, answer api.Message) (api.Message, bool) {
	i := -1
	if len(m.Questions) == 1 {
		i = modelRule(list, m.Questions[0].Name)
	}
	if i < 0 || list[i].Kind == 0 {
		return answer, true
	}
	r := list[i]
	if r.Kind == 1 {
		return api.Message{}, false
	}
	said := api.Message{
		ID: answer.ID, Response: answer.Response, Opcode: answer.Opcode, TC: answer.TC, RD: answer.RD, RA: answer.RA,
		AD: answer.AD, CD: answer.CD, Questions: answer.Questions,
	}
	if r.Kind == 2 {
		said.Rcode = 3
	}
	for _, x := range answer.Additional {
		if x.Type == 41 {
			said.Additional = append(said.Additional, x)
		}
	}
	if q := m.Questions[0]; r.Kind == 4 && (r.Type == 5 || q.Type == r.Type || q.Type == 255) {
		said.Answers = []api.Record{{Owner: q.Name, Type: r.Type, Class: 1, TTL: r.TTL, Data: r.Data}}
	}
	return said, true
}

func TestFilterAgain(t *testing.T) {
	d := newDice(154)
	for range 10000 {
		list, m := d.rules(), api.Message{}
		for range d.number(0, 1, 1, 1, 1, 1, 2) {
			m.Questions = append(m.Questions, api.Question{Name: d.name(), Type: d.number(1, 5, 15, 16, 255), Class: d.number(1, 255)})
		}
		answer := api.Message{ID: d.Intn(3), AA: d.Intn(2) == 0, TC: d.Intn(2) == 0, Rcode: d.Intn(6), Questions: m.Questions}
		for _, section := range []*[]api.Record{&answer.Answers, &answer.Authority, &answer.Additional} {
			for range d.Intn(4) {
				*section = append(*section, api.Record{Owner: d.name(), Type: d.number(1, 41), TTL: d.Intn(9)})
			}
		}
		got, ok := policy.Filter(list, m, answer)
		if want, may := modelFilter(list, m, answer); !isLike(got, want) || ok != may {
			t.Fatalf("P15.4 Filter(%+v, %+v, %+v) = %+v, %v; wanted %+v, %v", list, m, answer, got, ok, want, may)
		}
	}
}
