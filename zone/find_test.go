package zone_test

import (
	"testing"

	"gazetteer/api"
	"gazetteer/data"
	"gazetteer/name"
	"gazetteer/zone"
)

// finding: a question, and what is to be found, with names as they are written.
type finding struct {
	q        string
	t        string
	kind     int
	owner    string
	encloser string
	wild     bool
	records  string
}

func show(n string) string {
	if n == "" {
		return ""
	}
	return name.Show(n)
}

func finds(t *testing.T, z *zone.Zone, cases ...finding) {
	t.Helper()
	for _, c := range cases {
		f := z.Find(n(c.q), data.TypeOf(c.t))
		got := finding{c.q, c.t, f.Kind, show(f.Owner), show(f.Encloser), f.Wild, toldAll(f.Records)}
		if got != c {
			t.Errorf("P5.3 Find: %+v; wanted %+v", got, c)
		}
	}
}

func TestFindExamples(t *testing.T) {
	finds(t, example(t),
		finding{"a.b.ex.", "A", api.FoundReferral, "b.ex.", "", false, "b.ex. NS ns.b.ex."},
		finding{"b.ex.", "DS", api.FoundNoData, "b.ex.", "b.ex.", false, ""},
		finding{"w.ex.", "A", api.FoundNoData, "w.ex.", "w.ex.", false, ""},
		finding{"q.p.w.ex.", "TXT", api.FoundAnswer, "*.w.ex.", "w.ex.", true, `q.p.w.ex. TXT "hello"`},
		finding{"*.w.ex.", "TXT", api.FoundAnswer, "*.w.ex.", "*.w.ex.", false, `*.w.ex. TXT "hello"`},
		finding{"x.ex.", "A", api.FoundNoName, "x.ex.", "ex.", false, ""},
	)
}

func TestFindNothing(t *testing.T) {
	z := example(t)
	for _, c := range []struct {
		q string
		t int
	}{
		{"", api.A}, {"www.ex.", api.A}, {"\x03www\x02ex", api.A}, {n("www.ex.") + "\x00", api.A},
		{n("org."), api.A}, {api.Root, api.A}, {n("www.ex.org."), api.A}, {n(`xx\002ex.`), api.A},
		{n("www.ex."), 0}, {n("www.ex."), -1}, {n("www.ex."), 65536}, {n("www.ex."), 65537}, {n("a.b.ex."), 0},
	} {
		if f := z.Find(c.q, c.t); f.Kind != api.FoundNone || f.Owner != "" || f.Encloser != "" || f.Wild || len(f.Records) != 0 {
			t.Errorf("P5.3 Find(%q, %d) = %+v; wanted nothing", c.q, c.t, f)
		}
	}
	if f := z.Find(n("www.ex."), 65535); f.Kind != api.FoundNoData {
		t.Errorf("P5.3 Find(www.ex., 65535) = %+v; wanted FoundNoData", f)
	}
}

func TestFindReferral(t *testing.T) {
	z := zoneOf(t, "C NS ns.c", "c NS Ns.a", "c DS 1 2 3 00", "ns.c A 10.0.0.1", "d.c NS ns", "x.y NS ns", "x.y DNAME z", "u DNAME z", "u NS ns")
	const both = "c.ex. NS Ns.a.ex.|C.ex. NS ns.c.ex."
	finds(t, z,
		finding{"c.ex.", "A", api.FoundReferral, "c.ex.", "", false, both},
		finding{"C.EX.", "NS", api.FoundReferral, "C.EX.", "", false, both},
		finding{"c.ex.", "ANY", api.FoundReferral, "c.ex.", "", false, both},
		finding{"c.ex.", "DS", api.FoundAnswer, "c.ex.", "c.ex.", false, "c.ex. DS 1 2 3 00"},
		finding{"x.C.Ex.", "DS", api.FoundReferral, "C.Ex.", "", false, both},
		finding{"ns.c.ex.", "A", api.FoundReferral, "c.ex.", "", false, both},
		// The topmost decides.
		finding{"d.c.ex.", "DS", api.FoundReferral, "c.ex.", "", false, both},
		finding{"e.d.c.ex.", "A", api.FoundReferral, "c.ex.", "", false, both},
		finding{"y.ex.", "A", api.FoundNoData, "y.ex.", "y.ex.", false, ""},
		finding{"Q.x.Y.ex.", "A", api.FoundReferral, "x.Y.ex.", "", false, "x.y.ex. NS ns.ex."},
		// NS are asked ahead of a DNAME.
		finding{"a.u.ex.", "A", api.FoundReferral, "u.ex.", "", false, "u.ex. NS ns.ex."},
		finding{"u.ex.", "DS", api.FoundNoData, "u.ex.", "u.ex.", false, ""},
		// At the apex NS are an answer.
		finding{"ex.", "NS", api.FoundAnswer, "ex.", "ex.", false, "ex. NS ns.ex.|ex. NS ns.org."},
		finding{"EX.", "DS", api.FoundNoData, "EX.", "EX.", false, ""},
	)
}

func TestFindGraft(t *testing.T) {
	z := zoneOf(t, "D DNAME new.org.", "d TXT x", "a.e DNAME z")
	finds(t, z,
		finding{"a.d.ex.", "A", api.FoundGraft, "d.ex.", "", false, "D.ex. DNAME new.org."},
		finding{"b.A.d.EX.", "DNAME", api.FoundGraft, "d.EX.", "", false, "D.ex. DNAME new.org."},
		finding{"d.ex.", "DNAME", api.FoundAnswer, "d.ex.", "d.ex.", false, "D.ex. DNAME new.org."},
		finding{"d.ex.", "TXT", api.FoundAnswer, "d.ex.", "d.ex.", false, `d.ex. TXT "x"`},
		finding{"d.ex.", "A", api.FoundNoData, "d.ex.", "d.ex.", false, ""},
		finding{"e.ex.", "A", api.FoundNoData, "e.ex.", "e.ex.", false, ""},
		finding{"x.a.e.ex.", "A", api.FoundGraft, "a.e.ex.", "", false, "a.e.ex. DNAME z.ex."},
	)
}

func TestFindThere(t *testing.T) {
	const sig = "w RRSIG A 253 2 60 9 1 7 ex. AAAA"
	const sig3 = "w RRSIG NSEC3 253 2 60 9 1 7 ex. AAAA"
	z := zoneOf(t, "W A 10.0.0.2", "w A 10.0.0.1", "w TXT x", sig, sig3, "w NSEC3 1 0 0 - 00",
		"l CNAME w", "l RRSIG CNAME 253 2 60 9 1 7 ex. AAAA", "h NSEC3 1 0 0 - 00", "x.k A 10.0.0.1", "k NSEC3 1 0 0 - 00")
	const toldSigs = "w.ex. RRSIG A 253 2 60 9 1 7 ex. AAAA|w.ex. RRSIG NSEC3 253 2 60 9 1 7 ex. AAAA"
	const toldAlias = "l.ex. CNAME w.ex."
	finds(t, z,
		finding{"W.ex.", "A", api.FoundAnswer, "W.ex.", "W.ex.", false, "w.ex. A 10.0.0.1|W.ex. A 10.0.0.2"},
		finding{"w.ex.", "AAAA", api.FoundNoData, "w.ex.", "w.ex.", false, ""},
		finding{"w.ex.", "RRSIG", api.FoundAnswer, "w.ex.", "w.ex.", false, toldSigs},
		finding{"w.ex.", "NSEC3", api.FoundAnswer, "w.ex.", "w.ex.", false, "w.ex. NSEC3 1 0 0 - 00"},
		finding{"w.ex.", "ANY", api.FoundAnswer, "w.ex.", "w.ex.", false,
			`w.ex. A 10.0.0.1|W.ex. A 10.0.0.2|w.ex. TXT "x"|w.ex. RRSIG A 253 2 60 9 1 7 ex. AAAA`},
		finding{"L.ex.", "A", api.FoundAlias, "L.ex.", "L.ex.", false, toldAlias},
		finding{"l.ex.", "DS", api.FoundAlias, "l.ex.", "l.ex.", false, toldAlias},
		finding{"l.ex.", "RRSIG", api.FoundAlias, "l.ex.", "l.ex.", false, toldAlias},
		finding{"l.ex.", "CNAME", api.FoundAnswer, "l.ex.", "l.ex.", false, toldAlias},
		finding{"l.ex.", "ANY", api.FoundAnswer, "l.ex.", "l.ex.", false, toldAlias + "|l.ex. RRSIG CNAME 253 2 60 9 1 7 ex. AAAA"},
		// What doesn't count makes no name be there.
		finding{"h.ex.", "NSEC3", api.FoundNoName, "h.ex.", "ex.", false, ""},
		finding{"h.ex.", "ANY", api.FoundNoName, "h.ex.", "ex.", false, ""},
		finding{"k.ex.", "NSEC3", api.FoundAnswer, "k.ex.", "k.ex.", false, "k.ex. NSEC3 1 0 0 - 00"},
		finding{"k.ex.", "ANY", api.FoundNoData, "k.ex.", "k.ex.", false, ""},
		finding{"ex.", "SOA", api.FoundAnswer, "ex.", "ex.", false, "ex. SOA ns.ex. h.ex. 7 2 3 4 5"},
		finding{"B.a.w.Ex.", "A", api.FoundNoName, "B.a.w.Ex.", "w.Ex.", false, ""},
		finding{"b.a.l.ex.", "A", api.FoundNoName, "b.a.l.ex.", "l.ex.", false, ""},
	)
}

func TestFindWild(t *testing.T) {
	z := zoneOf(t, "* A 10.0.0.1", "* A 10.0.0.2", "* NSEC3 1 0 0 - 00", "*.l CNAME w", "x.*.s TXT x", "w.s.q A 10.0.0.1",
		"e NSEC3 1 0 0 - 00", "*.n NSEC3 1 0 0 - 00", "n TXT x")
	const a2 = " A 10.0.0.1|"
	finds(t, z,
		finding{"Z.eX.", "A", api.FoundAnswer, "*.eX.", "eX.", true, "Z.eX. A 10.0.0.1|Z.eX. A 10.0.0.2"},
		finding{"a.b.c.ex.", "A", api.FoundAnswer, "*.ex.", "ex.", true, "a.b.c.ex. A 10.0.0.1|a.b.c.ex. A 10.0.0.2"},
		finding{"u.ex.", "TXT", api.FoundNoData, "*.ex.", "ex.", true, ""},
		finding{"u.ex.", "ANY", api.FoundAnswer, "*.ex.", "ex.", true, "u.ex." + a2 + "u.ex. A 10.0.0.2"},
		finding{"u.ex.", "NSEC3", api.FoundAnswer, "*.ex.", "ex.", true, "u.ex. NSEC3 1 0 0 - 00"},
		// A name that isn't there, though a record that doesn't count stands at it.
		finding{"e.ex.", "NSEC3", api.FoundAnswer, "*.ex.", "ex.", true, "e.ex. NSEC3 1 0 0 - 00"},
		finding{"*.ex.", "A", api.FoundAnswer, "*.ex.", "*.ex.", false, "*.ex. A 10.0.0.1|*.ex. A 10.0.0.2"},
		finding{"x.*.ex.", "A", api.FoundNoName, "x.*.ex.", "*.ex.", false, ""},
		finding{"a.L.ex.", "A", api.FoundAlias, "*.L.ex.", "L.ex.", true, "a.L.ex. CNAME w.ex."},
		finding{"a.l.ex.", "CNAME", api.FoundAnswer, "*.l.ex.", "l.ex.", true, "a.l.ex. CNAME w.ex."},
		finding{"a.l.ex.", "ANY", api.FoundAnswer, "*.l.ex.", "l.ex.", true, "a.l.ex. CNAME w.ex."},
		finding{"l.ex.", "A", api.FoundNoData, "l.ex.", "l.ex.", false, ""},
		// A star at which nothing stands.
		finding{"a.s.ex.", "TXT", api.FoundNoData, "*.s.ex.", "s.ex.", true, ""},
		finding{"*.s.ex.", "ANY", api.FoundNoData, "*.s.ex.", "*.s.ex.", false, ""},
		finding{"a.*.s.ex.", "TXT", api.FoundNoName, "a.*.s.ex.", "*.s.ex.", false, ""},
		// The star above doesn't reach below a name that is there.
		finding{"a.q.ex.", "A", api.FoundNoName, "a.q.ex.", "q.ex.", false, ""},
		finding{"v.w.s.q.ex.", "A", api.FoundNoName, "v.w.s.q.ex.", "w.s.q.ex.", false, ""},
		// A star that isn't there, as nothing that counts stands at it.
		finding{"a.n.ex.", "NSEC3", api.FoundNoName, "a.n.ex.", "n.ex.", false, ""},
	)
}

func TestFindAtRoot(t *testing.T) {
	records := list("* A 10.0.0.1", "www A 10.0.0.2", "*.org. TXT x")
	records = append(records,
		api.Record{Owner: api.Root, Type: api.SOA, Class: api.IN, Data: list(head()[0])[0].Data},
		api.Record{Owner: api.Root, Type: api.NS, Class: api.IN, Data: api.Root})
	z, at, e := zone.New(api.Root, records)
	if e != api.OK {
		t.Fatalf("New = %d, %d", at, e)
	}
	finds(t, z,
		finding{".", "NS", api.FoundAnswer, ".", ".", false, ". NS ."},
		finding{"com.", "A", api.FoundNoName, "com.", ".", false, ""},
		finding{"ex.", "A", api.FoundNoData, "ex.", "ex.", false, ""},
		finding{"q.ex.", "A", api.FoundAnswer, "*.ex.", "ex.", true, "q.ex. A 10.0.0.1"},
		finding{"org.", "TXT", api.FoundNoData, "org.", "org.", false, ""},
	)
}
