package auth_test

import (
	"reflect"
	"slices"
	"strconv"
	"strings"
	"testing"

	"gazetteer/api"
	"gazetteer/auth"
	"gazetteer/data"
	"gazetteer/master"
	"gazetteer/name"
	"gazetteer/seal"
	"gazetteer/signer"
	"gazetteer/zone"
)

// n gives the name that a text tells.
func n(text string) string {
	wire, _, e := name.Read(text, api.Root)
	if e != api.OK {
		panic(text)
	}
	return wire
}

// list gives the records of lines of a file, of age 60 where none is told.
func list(apex string, lines ...string) []api.Record {
	records, f := master.Parse("$TTL 60\n"+strings.Join(lines, "\n"), n(apex), nil)
	if f.Code != api.OK {
		panic(lines[f.Line-2])
	}
	return records
}

// head: with what the zones here begin.
func head() []string { return []string{"@ SOA ns h 7 2 3 4 5", "@ NS ns.org."} }

func newZone(apex string, records []api.Record) *zone.Zone {
	z, at, e := zone.New(n(apex), records)
	if e != api.OK {
		panic("no zone " + apex + ": error " + strconv.Itoa(int(e)) + " of the record " + strconv.Itoa(at))
	}
	return z
}

// bare gives the zone of lines alone.
func bare(apex string, lines ...string) *zone.Zone { return newZone(apex, list(apex, lines...)) }

// plain gives the zone of head and lines.
func plain(apex string, lines ...string) *zone.Zone {
	return bare(apex, slices.Concat(head(), lines)...)
}

// plan: one key, which signs all.
func plan(hashed bool) api.Plan {
	k, _ := seal.NewKey(251, 263, 3, 257)
	p := api.Plan{Keys: []api.PlanKey{{Key: k, Active: true}}, From: 100, Until: 200, KeyTTL: 30}
	if hashed {
		p.Hashed, p.Salt, p.Rounds = true, "\xab\xcd", 1
	}
	return p
}

// signed gives the zone of head and lines, signed by that plan.
func signed(apex string, hashed bool, lines ...string) *zone.Zone {
	records, e := signer.Sign(n(apex), list(apex, slices.Concat(head(), lines)...), plan(hashed))
	if e != api.OK {
		panic("no signed zone " + apex)
	}
	return newZone(apex, records)
}

// ask gives a message that asks one question.
func ask(q, typ string) api.Message {
	t := data.TypeOf(typ)
	if t == 0 {
		panic(typ)
	}
	return api.Message{ID: 4711, RD: true, Questions: []api.Question{{Name: n(q), Type: t, Class: api.IN}}}
}

// opt gives an extra.
func opt(class, ttl int) api.Record {
	return api.Record{Owner: api.Root, Type: api.OPT, Class: class, TTL: ttl}
}

// with gives a message with more additional records.
func with(m api.Message, more ...api.Record) api.Message {
	m.Additional = slices.Concat(m.Additional, more)
	return m
}

// proved gives a message that wants proofs.
func proved(m api.Message) api.Message { return with(m, opt(4096, 32768)) }

// told writes a record in one line. Of what is long its first word does.
func told(r api.Record) string {
	d, _ := data.Show(r.Type, r.Data)
	switch r.Type {
	case api.RRSIG, api.NSEC:
		d, _, _ = strings.Cut(d, " ")
	case api.SOA, api.DNSKEY, api.NSEC3:
		d = ""
	}
	return strings.TrimSpace(name.Show(r.Owner) + " " + strconv.Itoa(r.TTL) + " " + data.TypeName(r.Type) + " " + d)
}

// tell writes what is said in lines: the code and AA, and the records of each
// section, but for the OPT.
func tell(m api.Message) []string {
	first := "rcode " + strconv.Itoa(m.Rcode)
	if m.AA {
		first += " aa"
	}
	lines := []string{first}
	for i, section := range [][]api.Record{m.Answers, m.Authority, m.Additional} {
		for _, r := range section {
			if r.Type != api.OPT {
				lines = append(lines, [...]string{"an ", "au ", "ad "}[i]+told(r))
			}
		}
	}
	return lines
}

// said: what is answered to a message of at most one extra, which the answer's
// OPT must fit; and so must what is told back.
func said(t *testing.T, zones []*zone.Zone, m api.Message) api.Message {
	t.Helper()
	a, ok := auth.Answer(zones, m)
	if !ok {
		t.Fatalf("P9.1: nothing is answered to %+v", m)
	}
	checkBack(t, m, a)
	got := opts(a)
	switch asked := opts(m); {
	case len(asked) == 0 && len(got) == 0:
	case len(asked) == 1 && len(got) == 1 && a.Additional[len(a.Additional)-1] == got[0]:
		want := opt(4096, asked[0].TTL&32768)
		if got[0] != want {
			t.Errorf("P9.1 of %+v: the extra %+v, wanted %+v", m, got[0], want)
		}
	default:
		t.Errorf("P9.1 of %+v: the extras %+v", m, got)
	}
	return a
}

// checkBack: what is told of the message itself.
func checkBack(t *testing.T, m, a api.Message) {
	t.Helper()
	want := api.Message{ID: m.ID, Response: true, Opcode: m.Opcode, AA: a.AA, RD: m.RD, CD: m.CD, Rcode: a.Rcode,
		Questions: m.Questions, Answers: a.Answers, Authority: a.Authority, Additional: a.Additional}
	if len(m.Questions) == 0 {
		want.Questions = a.Questions
	}
	if !reflect.DeepEqual(a, want) || len(a.Questions) != len(m.Questions) {
		t.Errorf("P9.1: to %+v is told back %+v", m, a)
	}
}

func opts(m api.Message) []api.Record {
	return slices.DeleteFunc(slices.Clone(m.Additional), func(r api.Record) bool { return r.Type != api.OPT })
}

// row: a question, and what is to be said to it, lines with "; " between.
type row struct{ q, typ, want string }

func check(t *testing.T, zones []*zone.Zone, proofs bool, rows ...row) {
	t.Helper()
	for _, c := range rows {
		m := ask(c.q, c.typ)
		if proofs {
			m = proved(m)
		}
		if got := strings.Join(tell(said(t, zones, m)), "; "); got != c.want {
			t.Errorf("P9.1 of %s %s, proofs %v:\n%s\nwanted:\n%s", c.q, c.typ, proofs, strings.ReplaceAll(got, "; ", "\n"), strings.ReplaceAll(c.want, "; ", "\n"))
		}
	}
}
