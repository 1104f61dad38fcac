package zone_test

import (
	"strconv"
	"strings"
	"testing"

	"gazetteer/api"
	"gazetteer/data"
	"gazetteer/zone"
)

// linted writes findings: code, owner, type, target.
func linted(z *zone.Zone) string {
	var texts []string
	for _, f := range z.Lint() {
		text := strconv.Itoa(f.Code) + " " + show(f.Owner) + " " + data.TypeName(f.Type)
		if f.Target != "" {
			text += " " + show(f.Target)
		}
		texts = append(texts, text)
	}
	return strings.Join(texts, "|")
}

func lints(t *testing.T, what string, z *zone.Zone, want string) {
	t.Helper()
	if got := linted(z); got != want {
		t.Errorf("P5.4 Lint(), %s: %s; wanted %s", what, got, want)
	}
}

func TestLintLone(t *testing.T) {
	const soa = "@ SOA ns h 7 2 3 4 5"
	lints(t, "one server", zoneAt(t, "Ex.", soa, "@ NS ns.org."), "1 Ex. NS")
	lints(t, "one server without an address", zoneAt(t, "ex.", soa, "@ NS ns"), "1 ex. NS|3 ex. NS ns.ex.")
	lints(t, "two servers", zoneAt(t, "ex.", soa, "@ NS ns.org.", "@ NS ns.com."), "")
	lints(t, "two servers at the apex, one below", zoneAt(t, "ex.", soa, "@ NS ns.org.", "@ NS ns.com.", "a NS ns.org."), "")
	lints(t, "the example", example(t), "1 ex. NS")
}

func TestLintHidden(t *testing.T) {
	ns := "ns A 10.0.0.1"
	const sig = " RRSIG A 253 2 60 9 1 7 ex. AAAA"
	const sig3 = " RRSIG NSEC3 253 2 60 9 1 7 ex. AAAA"
	lints(t, "what may stand at another zone's name", zoneOf(t, ns, "c NS ns", "c DS 1 2 3 00", "c NSEC d", "c"+sig, "c A 10.0.0.1", "c AAAA ::1"), "")
	lints(t, "what may not", zoneOf(t, ns, "C NS ns", "c TXT x", "c MX 1 c", "c SRV 1 2 3 q", "c DNAME x", "c TYPE700 \\# 0"),
		"4 c.ex. MX|4 c.ex. TXT|4 c.ex. SRV|4 c.ex. DNAME|4 c.ex. TYPE700")
	lints(t, "what may stand below", zoneOf(t, ns, "c NS ns", "a.c A 10.0.0.1", "b.a.c AAAA ::1"), "")
	lints(t, "what may not stand below", zoneOf(t, ns, "c NS ns", "A.c NS ns", "a.c DS 1 2 3 00", "b.A.c NSEC d", "b.a.c"+sig, "d.c CNAME x", "x.*.c TXT x"),
		"4 x.*.c.ex. TXT|4 A.c.ex. NS|4 a.c.ex. DS|4 b.a.c.ex. RRSIG|4 b.A.c.ex. NSEC|4 d.c.ex. CNAME")
	lints(t, "what doesn't count", zoneOf(t, ns, "c NS ns", "c NSEC3 1 0 0 - 00", "c"+sig3, "a.c NSEC3 1 0 0 - 00", "a.c"+sig3), "")
	lints(t, "the apex is no such name", zoneOf(t, ns, "@ TXT x", "a TXT x", "@ MX 1 ns"), "")
	lints(t, "a target isn't asked of what is hidden", zoneOf(t, ns, "c NS ns", "a.c MX 1 q", "a.c NS q"), "4 a.c.ex. NS|4 a.c.ex. MX")
	// The topmost name counts: at the lower one an NS is below the upper one.
	lints(t, "zones below zones", zoneOf(t, ns, "c NS ns", "d.c NS ns", "d.c A 10.0.0.1", "x.d.c A 10.0.0.1"), "4 d.c.ex. NS")
}

func TestLintTargets(t *testing.T) {
	with := func(line string) []string {
		return []string{line, "ns A 10.0.0.1", "a4 A 10.0.0.1", "a6 AAAA ::1", "l CNAME a4", "t TXT x", "*.w4 A 10.0.0.1", "*.w6 AAAA ::1", "*.wl CNAME a4", "*.wt TXT x",
			"c NS ns.org.", "glue.c A 10.0.0.1", "glue6.c AAAA ::1", "g DNAME org.", "x.e A 10.0.0.1"}
	}
	for _, c := range []struct{ target, ns, other string }{
		{"a4", "", ""},
		{"A6.EX.", "", ""},
		{"l", "2", "2"},
		{"L.Ex.", "2", "2"},
		{"t", "3", "3"},
		{"e", "3", "3"},
		{"none.T", "3", "3"},
		{"@", "3", "3"},
		{"q.w4", "", ""},
		{"q.w6", "", ""},
		{"q.wl", "2", "2"},
		{"q.wt", "3", "3"},
		{"glue.c", "", ""},
		{"GLUE6.c", "", ""},
		{"bare.c", "3", ""},
		{"c", "3", ""},
		{"x.g", "3", "3"},
		{"g", "3", "3"},
		{"a.org.", "", ""},
		{".", "", ""},
	} {
		for _, r := range []struct{ typ, words, want string }{
			{"NS", "NS ", c.ns}, {"MX", "MX 10 ", c.other}, {"SRV", "SRV 1 2 3 ", c.other},
		} {
			z := zoneOf(t, with("from "+r.words+c.target)...)
			want := ""
			if r.want != "" {
				set := z.Set(n("from.ex."), data.TypeOf(r.typ))
				names := data.Names(set[0].Type, set[0].Data)
				want = r.want + " from.ex. " + r.typ + " " + show(names[0])
			}
			lints(t, r.words+c.target, z, want)
		}
	}
	lints(t, "types that lead to no server", zoneOf(t, "ns A 10.0.0.1", "p PTR q", "p NAPTR 1 2 a b c q"), "")
	lints(t, "a server within its own zone", zoneOf(t, "ns A 10.0.0.1", "c NS ns.c", "d NS ns.d", "ns.d A 10.0.0.1"), "3 c.ex. NS ns.c.ex.")
	lints(t, "each record of a set", zoneOf(t, "ns A 10.0.0.1", "m MX 20 a", "M MX 10 b", "m MX 30 ns"), "3 M.ex. MX b.ex.|3 m.ex. MX a.ex.")
}

// TestLintRootTarget: the root as a target says that there is no server.
func TestLintRootTarget(t *testing.T) {
	records := list("m MX 0 .", "s SRV 0 0 0 .")
	records = append(records,
		api.Record{Owner: api.Root, Type: api.SOA, Class: api.IN, Data: list(head()[0])[0].Data},
		api.Record{Owner: api.Root, Type: api.NS, Class: api.IN, Data: api.Root})
	z, _, e := zone.New(api.Root, records)
	if e != api.OK {
		t.Fatal(e)
	}
	lints(t, "the root", z, "1 . NS|3 . NS .")
}
