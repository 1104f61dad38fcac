package resolver_test

import (
	"strings"
	"testing"

	"gazetteer/api"
	"gazetteer/name"
)

// lies: what the servers of bad.ex. say to a question, of bad.ex. and of others.
// Whoever believed them of others would come to 10.0.0.66, which lies on.
func lies() map[string]func(q string) api.Message {
	soa := " SOA ns. h. 1 60 60 60 9999"
	make := func(rcode int, answers, authority, additional string) func(string) api.Message {
		return func(q string) api.Message {
			text := func(lines string) []api.Record {
				if lines == "" {
					return nil
				}
				return list(".", strings.Split(strings.ReplaceAll(lines, "QUERY", q), "; ")...)
			}
			return api.Message{Rcode: rcode, AA: true, Answers: text(answers), Authority: text(authority), Additional: text(additional)}
		}
	}
	return map[string]func(string) api.Message{
		"an answer of another":            make(0, "QUERY 600 A 10.9.9.9; www.ex. 600 A 10.9.9.9; www.net. 600 A 10.9.9.9", "", ""),
		"an answer of another, first":     make(0, "www.ex. 600 A 10.9.9.9; QUERY 600 A 10.9.9.9", "", ""),
		"beside an answer":                make(0, "QUERY 600 MX 1 www.ex.", "ex. 600 NS ns.bad.ex.; net. 600 NS ns.bad.ex.; . 600 NS ns.bad.ex.", "ns.ex. 600 A 10.0.0.66; www.ex. 600 A 10.9.9.9; ns.net. 600 A 10.0.0.66; ns.bad.ex. 600 A 10.0.0.66"),
		"an alias, and more":              make(0, "QUERY 600 CNAME www.ex.; www.ex. 600 A 10.9.9.9", "", ""),
		"an alias, and nothing":           make(3, "QUERY 600 CNAME www.ex.", "ex. 600"+soa, ""),
		"an alias, and no data":           make(0, "QUERY 600 CNAME www.ex.", "ex. 600"+soa, ""),
		"aliases":                         make(0, "QUERY 600 CNAME www.ex.; www.ex. 600 CNAME a.bad.ex.; c.ex. 600 CNAME a.bad.ex.; a.bad.ex. 600 A 10.9.9.9", "", ""),
		"a graft of ex.":                  make(0, "ex. 600 DNAME bad.ex.; QUERY 600 CNAME x.bad.ex.", "", ""),
		"a graft of the root":             make(0, ". 600 DNAME bad.ex.; QUERY 600 CNAME x.bad.ex.", "", ""),
		"a graft of ex., behind":          make(0, "QUERY 600 A 10.9.9.9; ex. 600 DNAME bad.ex.; d.ex. 600 DNAME bad.ex.", "", ""),
		"a graft of its own":              make(0, "bad.ex. 600 DNAME ex.; QUERY 600 CNAME www.ex.; www.ex. 600 A 10.9.9.9", "", ""),
		"that there is no ex.":            make(3, "", "ex. 600"+soa, ""),
		"that there is nothing":           make(3, "", ". 600"+soa, ""),
		"that there is nothing of its":    make(3, "", "bad.ex. 600"+soa, ""),
		"that there are no addresses":     make(0, "", "ex. 600"+soa, ""),
		"to another server of ex.":        make(0, "", "ex. 600 NS ns.bad.ex.", "ns.bad.ex. 600 A 10.0.0.66"),
		"to another server of the root":   make(0, "", ". 600 NS ns.bad.ex.", "ns.bad.ex. 600 A 10.0.0.66"),
		"to another server of net.":       make(0, "", "net. 600 NS ns.net.", "ns.net. 600 A 10.0.0.66"),
		"to itself, by others' names":     make(0, "", "bad.ex. 600 NS ns.ex.; bad.ex. 600 NS ns.net.", "ns.ex. 600 A 10.0.0.66; ns.net. 600 A 10.0.0.66"),
		"below, by others' names":         make(0, "", "QUERY 600 NS ns.ex.; QUERY 600 NS ns.net.", "ns.ex. 600 A 10.0.0.66; ns.net. 600 A 10.0.0.66; www.ex. 600 A 10.9.9.9"),
		"below, by names of no address":   make(0, "", "QUERY 600 NS www.ex.; QUERY 600 NS ns.net.", ""),
		"below, by names that lead round": make(0, "", "QUERY 600 NS a.bad.ex.; QUERY 600 NS b.bad.ex.", ""),
		"below, and elsewhere":            make(0, "", "QUERY 600 NS ns.bad.ex.; ex. 600 NS ns.bad.ex.; www.ex. 600 NS ns.bad.ex.; . 600 NS ns.bad.ex.", "ns.bad.ex. 600 A 10.0.0.66"),
		"nothing":                         make(0, "", "", ""),
		"that it fails":                   make(2, "", "", ""),
	}
}

// TestLies: whatever the servers of one zone say, ahead of others' questions,
// turns nothing of these.
func TestLies(t *testing.T) {
	w := netOf(found(
		lay(".", "ns.=1", "top A 10.1.0.1"),
		lay("ex.", "ns.ex.=2", "www A 10.1.0.2", "c CNAME www.net.", "d DNAME net.", "m MX 1 www", "@ A 10.1.0.3", "bad DS 1 253 1 aa"),
		lay("net.", "ns.net.=3 nsn.=4", "www A 10.1.0.4", "*.w TXT hi"),
		lay("sub.ex.", "ns.sub.ex.=5", "www A 10.1.0.5"),
		lay("bad.ex.", "ns.bad.ex.=66", "www A 10.1.0.6"),
	))
	within := []string{"100 x.bad.ex. A", "100 bad.ex. NS", "100 ns.bad.ex. A", "100 a.b.bad.ex. MX", "101 bad.ex. ANY", "101 x.bad.ex. DNAME", "102 y.bad.ex. CNAME", "102 bad.ex. A", "103 ex.bad.ex. DS", "103 www.net.bad.ex. A"}
	others := []string{"200 www.ex. A", "200 ex. A", "200 ex. NS", "200 ns.ex. A", "200 c.ex. A", "200 www.d.ex. A", "200 m.ex. MX", "200 z.ex. A", "200 www.net. A", "200 q.w.net. TXT", "200 net. NS", "200 z.net. A", "200 www.sub.ex. A", "200 sub.ex. DS", "200 top. A", "200 . NS", "200 z. A", "200 d.ex. DNAME", "200 www.ex. TXT"}
	var truth []api.Reply
	for _, line := range others {
		truth = append(truth, ask(t, begin(t, 100), w, line))
	}
	turned := 0
	for about, make := range lies() {
		w.instead = func(to string, m api.Message) ([]api.Datagram, bool) {
			if to != at(66) {
				return nil, false
			}
			q := m.Questions[0]
			a := make(name.Show(q.Name))
			if !name.Within(q.Name, n("bad.ex.")) {
				a = lie(m) // who asks this has believed a lie
				turned++
			}
			a.ID, a.Response, a.Questions = m.ID, true, m.Questions
			return []api.Datagram{{From: to, Data: packed(a)}}, true
		}
		for _, most := range []int{1, 5, 100, 5000} {
			r := begin(t, most)
			for _, line := range within {
				if reply := ask(t, r, w, line); reply.Rcode == api.FormErr {
					t.Errorf("P14.2: %s: %s", line, tell(reply))
				}
			}
			for i, line := range others {
				if reply := ask(t, r, w, line); !isSame(reply, truth[i]) {
					t.Errorf("P14.5 %s, %d things: %s: %s\nwanted %s", about, most, line, tell(reply), tell(truth[i]))
				}
				ask(t, r, w, within[i%len(within)])
			}
		}
	}
	if turned > 0 {
		t.Errorf("P14.5: for names that aren't within its zone a liar was asked %d times", turned)
	}
}

// TestLiesAbove: a zone whose servers say what they like of those below it turns
// nothing beside it; that it spoils what is its own is the least it can do.
func TestLiesAbove(t *testing.T) {
	w := netOf(found(
		lay(".", "ns.=1"),
		lay("bad.", "ns.bad.=66"),
		lay("sub.bad.", "ns.sub.bad.=3", "www A 10.1.1.1"),
		lay("ex.", "ns.ex.=2", "www A 10.1.1.2"),
	))
	w.instead = func(to string, m api.Message) ([]api.Datagram, bool) {
		return []api.Datagram{{From: to, Data: packed(lie(m))}}, to == at(66)
	}
	run(t, begin(t, 100), w,
		"100 www.sub.bad. A => 2 NoError: www.sub.bad. 60 A 9.9.9.9",
		"100 www.ex. A => 2 NoError: www.ex. 60 A 10.1.1.2",
		"100 ex. A => 1 NoError",
	)
}

// TestStrayAddresses: an address that is told with one zone is not taken for
// another's, though the name of the server is the same.
func TestStrayAddresses(t *testing.T) {
	// The root tells of ns.sub.ex. what nobody asks it for: it is the server of
	// y., to which nobody ever comes.
	w := netOf(found(
		lay(".", "ns.=1", "y. NS ns.sub.ex.", "ns.sub.ex. A 10.0.0.99"),
		lay("ex.", "ns.ex.=2"),
		lay("sub.ex.", "ns.sub.ex.=3", "www A 10.1.1.1"),
	))
	run(t, begin(t, 100), w,
		"100 x.y. A => 2 ServFail",
		"100 www.sub.ex. A => 3 NoError: www.sub.ex. 60 A 10.1.1.1",
		"100 x.y. A => ? ServFail",
		"100 x.sub.ex. A => 1 NxDomain",
		"100 ns.sub.ex. A => 1 NoError: ns.sub.ex. 600 A 10.0.0.3",
	)
}
