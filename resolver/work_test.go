package resolver_test

import (
	"strconv"
	"strings"
	"testing"

	"gazetteer/api"
	"gazetteer/auth"
	"gazetteer/name"
	"gazetteer/wire"
)

// TestSilence: servers that don't answer, all of them or some.
func TestSilence(t *testing.T) {
	w := netOf(found(
		lay(".", "ns.=1"),
		lay("ex.", "a.ex.=2 b.ex.=3 b.ex.=4 c.ex.=5", "www A 10.1.1.1"),
	))
	for _, silent := range []int{2, 3, 4, 5, 1} {
		reply := ask(t, begin(t, 100), w, "100 www.ex. A")
		if tell(reply) != "NoError: www.ex. 60 A 10.1.1.1" || reply.Work != silent && silent != 1 {
			t.Errorf("P14.2: with a server that says nothing: %s, Work %d", tell(reply), reply.Work)
		}
		if silent == 5 {
			break
		}
		delete(w.servers, at(silent))
	}
	delete(w.servers, at(5))
	run(t, begin(t, 100), w, "100 www.ex. A => 5 ServFail", "100 www. A => 1 NxDomain")
	delete(w.servers, at(1))
	run(t, begin(t, 100), w, "100 www.ex. A => 1 ServFail", "100 www. A => 1 ServFail", "100 . NS => 1 ServFail")
	if reply := begin(t, 100).Resolve(panics{}, n("www.ex."), api.A, 100); reply.Rcode != api.ServFail || reply.Work != 1 {
		t.Errorf("P1: a net that panics: %+v", reply)
	}
}

type panics struct{}

func (panics) Send(string, []byte) []api.Datagram { panic("no net") }

// useless: answers of a server of ex. to the question www.ex. A, none of which
// tells anything.
func useless() map[string]func(a *api.Message) {
	put := func(section string, rcode int, lines ...string) func(a *api.Message) {
		return func(a *api.Message) {
			a.Rcode = rcode
			switch section {
			case "answers":
				a.Answers = list(".", lines...)
			case "authority":
				a.Authority = list(".", lines...)
				a.Additional = list(".", "ns.ex. A 10.0.0.9", "ns. A 10.0.0.9")
			}
		}
	}
	soa := " SOA ns. h. 1 60 60 60 30"
	return map[string]func(a *api.Message){
		"nothing":                    put("", api.NoError),
		"nothing, and NxDomain":      put("", api.NxDomain),
		"YxDomain":                   put("", api.YxDomain),
		"FormErr":                    put("", api.FormErr),
		"ServFail":                   put("answers", api.ServFail, "www.ex. A 10.9.9.9"),
		"NotImp":                     put("answers", api.NotImp, "www.ex. A 10.9.9.9"),
		"Refused":                    put("answers", api.Refused, "www.ex. A 10.9.9.9"),
		"TC":                         func(a *api.Message) { a.TC = true },
		"TC, and a part":             func(a *api.Message) { put("answers", api.NoError, "www.ex. A 10.9.9.9")(a); a.TC = true },
		"TC, and where to go":        func(a *api.Message) { put("authority", api.NoError, "www.ex. NS ns.ex.")(a); a.TC = true },
		"another name":               put("answers", api.NoError, "x.ex. A 10.9.9.9"),
		"another type":               put("answers", api.NoError, "www.ex. TXT hi"),
		"another zone's name":        put("answers", api.NoError, "www.net. A 10.9.9.9"),
		"another class":              func(a *api.Message) { put("answers", api.NoError, "www.ex. A 10.9.9.9")(a); a.Answers[0].Class = 3 },
		"an age that is none":        func(a *api.Message) { put("answers", api.NoError, "www.ex. A 10.9.9.9")(a); a.Answers[0].TTL = 1 << 31 },
		"an alias beside it":         put("answers", api.NoError, "x.ex. CNAME y.ex.", "x.ex. A 10.9.9.9"),
		"a graft of the root":        put("answers", api.NoError, ". DNAME lie."),
		"a graft of itself":          put("answers", api.NoError, "www.ex. DNAME lie."),
		"a graft beside it":          put("answers", api.NoError, "w.ex. DNAME lie."),
		"an alias of another class":  func(a *api.Message) { put("answers", api.NoError, "www.ex. CNAME ns.ex.")(a); a.Answers[0].Class = 3 },
		"the root's absence":         put("authority", api.NxDomain, "."+soa),
		"the root's lack":            put("authority", api.NoError, "."+soa),
		"another zone's absence":     put("authority", api.NxDomain, "net."+soa),
		"an absence below":           put("authority", api.NxDomain, "a.www.ex."+soa),
		"an absence that is none":    put("authority", api.YxDomain, "ex."+soa),
		"an absence of another kind": func(a *api.Message) { put("authority", api.NxDomain, "ex."+soa)(a); a.Authority[0].Class = 3 },
		"back to the zone":           put("authority", api.NoError, "ex. NS ns.ex."),
		"back to the root":           put("authority", api.NoError, ". NS ns."),
		"to another zone":            put("authority", api.NoError, "net. NS ns.ex."),
		"below the name":             put("authority", api.NoError, "a.www.ex. NS ns.ex."),
		"to where nobody is":         put("authority", api.NoError, "www.ex. NS ns.www.ex."),
		"to where nothing stands":    put("authority", api.NoError, "www.ex. NS lie.net."),
		"to others, with NxDomain":   put("authority", api.NxDomain, "www.ex. NS ns.ex."),
		"to others, of another class": func(a *api.Message) {
			put("authority", api.NoError, "www.ex. NS ns.ex.")(a)
			a.Authority[0].Class = 3
		},
	}
}

// TestUseless: who says nothing of use is passed over, and nothing comes of it.
func TestUseless(t *testing.T) {
	w := netOf(found(
		lay(".", "ns.=1"),
		lay("ex.", "a.ex.=2 b.ex.=3", "www A 10.1.1.1"),
		lay("net.", "ns.net.=4"),
	))
	for about, change := range useless() {
		w.instead = func(to string, m api.Message) ([]api.Datagram, bool) {
			a := api.Message{ID: m.ID, Response: true, AA: true, Questions: m.Questions}
			change(&a)
			return []api.Datagram{{From: to, Data: packed(a)}}, to == at(2)
		}
		reply := ask(t, begin(t, 100), w, "100 www.ex. A")
		if tell(reply) != "NoError: www.ex. 60 A 10.1.1.1" {
			t.Errorf("P14.2 %s, then what is right: %s", about, tell(reply))
		}
		both := w.instead
		w.instead = func(to string, m api.Message) ([]api.Datagram, bool) {
			list, _ := both(to, m)
			return list, to == at(2) || to == at(3)
		}
		r := begin(t, 100)
		if reply := ask(t, r, w, "100 www.ex. A"); reply.Rcode != api.ServFail {
			t.Errorf("P14.2 %s: %s", about, tell(reply))
		}
		w.instead = nil
		if reply := ask(t, r, w, "100 www.ex. A"); tell(reply) != "NoError: www.ex. 60 A 10.1.1.1" {
			t.Errorf("P14.2 %s, and later what is right: %s", about, tell(reply))
		}
	}
}

// TestUselessDs: of the keys of a zone it doesn't tell itself.
func TestUselessDs(t *testing.T) {
	w := netOf(found(lay(".", "ns.=1", "ex. DS 1 253 1 aa"), lay("ex.", "ns.ex.=2")))
	w.servers[at(7)] = w.servers[at(2)]
	for _, lines := range [][]string{{"ex. NS ns.ex."}, {"ex. SOA ns. h. 1 60 60 60 30"}} {
		w.instead = func(to string, m api.Message) ([]api.Datagram, bool) {
			a := api.Message{ID: m.ID, Response: true, Questions: m.Questions, Authority: list(".", lines...), Additional: list(".", "ns.ex. A 10.0.0.2")}
			return []api.Datagram{{From: to, Data: packed(a)}}, to == at(1)
		}
		if reply := ask(t, begin(t, 100), w, "100 ex. DS"); reply.Rcode != api.ServFail {
			t.Errorf("P14.2: DS by %q: %s", lines, tell(reply))
		}
	}
}

// TestAddresses: servers whose addresses aren't told with their names are
// looked for; if that leads round, it ends.
func TestAddresses(t *testing.T) {
	plain := func(apex string, lines ...string) plot {
		return plot{apex, "", append([]string{"@ 300 SOA ns. h. 1 60 60 60 30"}, lines...)}
	}
	w := found(
		lay(".", "ns.=1", "a. NS ns.b.", "b. NS ns.a.", "c. NS ns.c.", "d. NS ns.ex.", "e. NS ns.net.", "e. NS lost.ex.", "f. NS six.", "six. AAAA 2001:db8::1", "g. NS ns.net."),
		lay("ex.", "nsx.=2"), lay("net.", "nsn.=3", "ns CNAME host.ex."),
		plain("d.", "@ NS ns.ex.", "www A 10.1.1.4"), plain("e.", "@ NS ns.net.", "www A 10.1.1.5"), plain("f.", "@ NS six.", "www A 10.1.1.6"),
	)
	ex := []string{"ex. SOA ns. h. 1 60 60 60 30", "ex. NS nsx.", "ns.ex. A 10.0.0.4", "host.ex. A 10.0.0.5"}
	w.servers[at(2)][0] = newZone("ex.", list(".", ex...))
	w.servers[at(4)], w.servers[at(5)] = w.zones[3:4], w.zones[4:5]
	w.servers["\x20\x01\x0d\xb8\x00\x00\x00\x00\x00\x00\x00\x00\x00\x00\x00\x01"] = w.zones[5:6]
	run(t, begin(t, 100), netOf(w),
		"100 www.d. A => 4 NoError: www.d. 60 A 10.1.1.4",
		"100 www.e. A => ? NoError: www.e. 60 A 10.1.1.5",
		"100 www.f. A => 2 NoError: www.f. 60 A 10.1.1.6",
		"100 www.a. A => 3 ServFail",
		"100 www.b. A => 3 ServFail",
		"100 ns.a. A => 3 ServFail",
		"100 www.c. A => 1 ServFail",
		"100 www.g. A => ? ServFail",
		"100 www.d. A => 0 NoError: www.d. 60 A 10.1.1.4",
	)
}

// TestOthersAddresses: where a server is that isn't within its zone, a zone's
// server can't tell.
func TestOthersAddresses(t *testing.T) {
	w := found(
		lay(".", "ns.=1"),
		lay("net.", "ns.net.=3"),
		lay("ex.", "ns.ex.=2"),
		lay("sub.ex.", "ns.sub.ex.=3", "www A 10.1.1.1"),
	)
	by := netOf(w)
	by.instead = func(to string, m api.Message) ([]api.Datagram, bool) {
		a := api.Message{ID: m.ID, Response: true, Questions: m.Questions,
			Authority:  list(".", "sub.ex. NS ns.net."),
			Additional: list(".", "ns.net. A 10.0.0.66")}
		if to == at(66) {
			a = lie(m)
		}
		return []api.Datagram{{From: to, Data: packed(a)}}, to == at(2) || to == at(66)
	}
	run(t, begin(t, 100), by, "100 www.sub.ex. A => 5 NoError: www.sub.ex. 60 A 10.1.1.1")
}

// TestManyNames: servers that lie within the zone they have aren't looked for,
// and of the others not all.
func TestManyNames(t *testing.T) {
	var lines []string
	for i := range 40 {
		lines = append(lines, "ex. NS a"+strconv.Itoa(i)+".ex.", "net. NS a"+strconv.Itoa(i)+".lost.")
	}
	top := append([]string{". SOA ns. h. 1 60 60 60 30", ". NS ns.", "ex. NS host.", "host. A 10.0.0.2", "net. NS z.host."}, lines...)
	w := found(lay(".", "ns.=1"), lay("ex.", "host.=2", "www A 10.1.1.1"))
	w.servers[at(1)][0] = newZone(".", list(".", top...))
	by := netOf(w)
	by.instead = func(to string, m api.Message) ([]api.Datagram, bool) {
		if to != at(1) {
			return nil, false
		}
		a, _ := auth.Answer(w.servers[to], m)
		if !a.AA {
			a.Additional = nil
		}
		return []api.Datagram{{From: to, Data: packed(a)}}, true
	}
	run(t, begin(t, 100), by, "100 www.ex. A => 3 NoError: www.ex. 60 A 10.1.1.1")
	if reply := ask(t, begin(t, 100), by, "100 www.net. A"); reply.Rcode != api.ServFail || reply.Work > 10 {
		t.Errorf("P14.2: servers that aren't there: %s, Work %d", tell(reply), reply.Work)
	}
}

// lead gives an answer that leads to the zone of so many labels of the name
// that is asked for, whose server is at an address.
func lead(m api.Message, labels int, address string) api.Message {
	zone := name.Tail(m.Questions[0].Name, labels)
	return api.Message{ID: m.ID, Response: true, Questions: m.Questions,
		Authority:  []api.Record{{Owner: zone, Type: api.NS, Class: api.IN, TTL: 60, Data: zone}},
		Additional: []api.Record{{Owner: zone, Type: api.A, Class: api.IN, TTL: 60, Data: address}}}
}

// TestEndless: whoever is led on and on ends.
func TestEndless(t *testing.T) {
	w := netOf(example())
	aliases := 0
	w.instead = func(to string, m api.Message) ([]api.Datagram, bool) {
		labels := int(to[3]) // of the zone whose server it is
		q := m.Questions[0].Name
		a := lead(m, labels, at(labels+1))
		if labels > name.Count(q) {
			aliases++
			other := strings.Repeat(string(rune('a'+aliases))+".", 120)
			a = api.Message{ID: m.ID, Response: true, Questions: m.Questions, Answers: []api.Record{{Owner: q, Type: api.CNAME, Class: api.IN, TTL: 60, Data: n(other)}}}
		}
		return []api.Datagram{{From: to, Data: packed(a)}}, true
	}
	reply := ask(t, begin(t, 100), w, "100 "+strings.Repeat("a.", 120)+" A")
	if reply.Rcode != api.ServFail || reply.Work != api.MaxWork || aliases != 1 {
		t.Errorf("P14.2: led on and on: %s, Work %d", tell(reply), reply.Work)
	}
	// A zone with more servers than may be asked.
	w.instead = func(to string, m api.Message) ([]api.Datagram, bool) {
		a := lead(m, 1, at(1000))
		for i := range 500 {
			a.Additional = append(a.Additional, api.Record{Owner: a.Authority[0].Owner, Type: api.A, Class: api.IN, TTL: 60, Data: at(1000 + i)})
		}
		return []api.Datagram{{From: to, Data: packed(a)}}, to == at(1)
	}
	if reply := ask(t, begin(t, 100), w, "100 www.ex. A"); reply.Rcode != api.ServFail || reply.Work != api.MaxWork {
		t.Errorf("P14.2: many servers: %s, Work %d", tell(reply), reply.Work)
	}
}

// tower gives the plots of so many zones, one below the other, each on a server
// of its own, from a number on.
func tower(label string, zones, from int) ([]plot, string) {
	var plots []plot
	apex := ""
	for i := range zones {
		apex = label + "." + apex
		number := from + i
		plots = append(plots, lay(apex, "ns."+apex+"="+strconv.Itoa(number)))
	}
	return plots, apex
}

// TestMostWork: what takes just so much work comes out; of what takes more no
// more is done.
func TestMostWork(t *testing.T) {
	for _, c := range []struct{ first, second int }{{50, 60}, {99, 98}, {99, 99}, {100, 99}, {99, 100}, {120, 120}} {
		one, top := tower("a", c.first, 2)
		two, end := tower("b", c.second, 2+c.first)
		one[c.first-1].lines = []string{"x CNAME y." + end}
		two[c.second-1].lines = []string{"y A 10.1.1.1"}
		plots := append([]plot{lay(".", "ns.=1")}, append(one, two...)...)
		w := netOf(found(plots...))
		need := c.first + 1 + c.second + 1
		r := begin(t, 1)
		reply := ask(t, r, w, "100 x."+top+" A")
		want := "NoError: x." + top + " 60 CNAME y." + end + " | y." + end + " 60 A 10.1.1.1"
		switch got := tell(reply); {
		case got == want && reply.Work <= need:
		case got == "ServFail" && need > api.MaxWork && reply.Work == api.MaxWork:
		default:
			t.Errorf("P14.3: work of %d: %d, %.200s", need, reply.Work, got)
		}
	}
}

// TestSent: what is sent is right, and has room for long answers.
func TestSent(t *testing.T) {
	w := netOf(example())
	ids := map[int]int{}
	r := begin(t, 1)
	for i := range 300 {
		ask(t, r, w, strconv.Itoa(100+i)+" x"+strconv.Itoa(i)+".ex. A")
	}
	for _, s := range w.sent {
		m, _, e := wire.Unpack([]byte(s.data))
		if e != api.OK || !isRight(m) || len(m.Additional) != 1 {
			t.Fatalf("P14.2: sent was %q", s.data)
		}
		ids[m.ID]++
		if auth.Serve(w.servers[s.to], []byte(s.data), 65535) == nil {
			t.Errorf("P14.2: nobody answers %q", s.data)
		}
	}
	if len(ids) != len(w.sent) {
		t.Errorf("%d messages have %d numbers: an answer to one would fit another", len(w.sent), len(ids))
	}
}
