package auth_test

import (
	"testing"

	"gazetteer/api"
	"gazetteer/zone"
)

// example: the lines of a zone with something of each kind. In order its names
// are ex., al, *.al, b, c, e.d, gr, mx, ns, *.w, www.
func example() []string {
	return []string{
		"al CNAME www", "*.al CNAME www", "b NS ns.b", "b NS ns.c", "b NS ns.org.", "b NS www", "ns.b AAAA ::1", "ns.b A 10.0.0.3", "ns.b A 10.0.0.2",
		"c NS ns.c", "c DS 1 253 1 aa", "c DS 2 253 1 bb", "ns.c A 10.0.0.4", "e.d A 10.0.0.5", "gr DNAME al",
		"mx MX 10 WWW", "mx MX 20 ns", "mx MX 30 mail.org.", "ns A 10.0.0.6", "ns AAAA ::6", "*.w TXT hello", "*.w MX 1 x.w", "*.w A 10.0.0.7", "WWW A 10.0.0.1",
	}
}

// TestExamples: those of the chapter.
func TestExamples(t *testing.T) {
	zones := []*zone.Zone{bare("ex.", "@ SOA ns h 7 2 3 4 5", "@ NS ns", "www A 10.0.0.1", "*.w TXT hello", "b NS ns.b", "ns.b A 10.0.0.2")}
	check(t, zones, false,
		row{"www.ex.", "A", "rcode 0 aa; an www.ex. 60 A 10.0.0.1"},
		row{"a.b.ex.", "A", "rcode 0; au b.ex. 60 NS ns.b.ex.; ad ns.b.ex. 60 A 10.0.0.2"},
		row{"x.ex.", "A", "rcode 3 aa; au ex. 5 SOA"},
		row{"org.", "A", "rcode 5"},
	)
	m := ask("www.ex.", "A")
	m.Opcode = 5
	if a := said(t, zones, m); a.Rcode != api.NotImp {
		t.Errorf("P9.1 of the Opcode 5: %d", a.Rcode)
	}
	m = ask("www.ex.", "A")
	m.Questions = append(m.Questions, m.Questions[0])
	if a := said(t, zones, m); a.Rcode != api.FormErr {
		t.Errorf("P9.1 of two questions: %d", a.Rcode)
	}
}

// referral: what is said of names at and below b.ex.
const referral = "rcode 0; au b.ex. 60 NS ns.b.ex.; au b.ex. 60 NS ns.c.ex.; au b.ex. 60 NS ns.org.; au b.ex. 60 NS www.ex."

// Glue stands by the NS, the A ahead of the AAAA, and without signatures.
const glue = "; ad ns.b.ex. 60 A 10.0.0.2; ad ns.b.ex. 60 A 10.0.0.3; ad ns.b.ex. 60 AAAA ::1; ad ns.c.ex. 60 A 10.0.0.4; ad WWW.ex. 60 A 10.0.0.1"

func TestKinds(t *testing.T) {
	check(t, []*zone.Zone{plain("ex.", example()...)}, false,
		row{"wwW.ex.", "A", "rcode 0 aa; an WWW.ex. 60 A 10.0.0.1"},
		row{"www.ex.", "TXT", "rcode 0 aa; au ex. 5 SOA"},
		row{"d.ex.", "ANY", "rcode 0 aa; au ex. 5 SOA"},
		row{"x.ex.", "A", "rcode 3 aa; au ex. 5 SOA"},
		row{"x.www.ex.", "ANY", "rcode 3 aa; au ex. 5 SOA"},
		row{"ex.", "SOA", "rcode 0 aa; an ex. 60 SOA"},
		row{"ex.", "NS", "rcode 0 aa; an ex. 60 NS ns.org."},
		row{"ex.", "DS", "rcode 0 aa; au ex. 5 SOA"},
		row{"al.ex.", "A", "rcode 0 aa; an al.ex. 60 CNAME www.ex.; an WWW.ex. 60 A 10.0.0.1"},
		row{"al.ex.", "TXT", "rcode 0 aa; an al.ex. 60 CNAME www.ex.; au ex. 5 SOA"},
		row{"al.ex.", "CNAME", "rcode 0 aa; an al.ex. 60 CNAME www.ex."},
		row{"al.ex.", "ANY", "rcode 0 aa; an al.ex. 60 CNAME www.ex."},
		row{"A.B.ex.", "A", referral + glue},
		row{"b.ex.", "NS", referral + glue},
		row{"b.ex.", "ANY", referral + glue},
		row{"a.b.ex.", "DS", referral + glue},
		row{"b.ex.", "DS", "rcode 0 aa; au ex. 5 SOA"},
		row{"c.ex.", "DS", "rcode 0 aa; an c.ex. 60 DS 1 253 1 aa; an c.ex. 60 DS 2 253 1 bb"},
		row{"c.ex.", "A", "rcode 0; au c.ex. 60 NS ns.c.ex.; ad ns.c.ex. 60 A 10.0.0.4"},
		row{"X.y.W.ex.", "TXT", `rcode 0 aa; an X.y.W.ex. 60 TXT "hello"`},
		row{"x.w.ex.", "AAAA", "rcode 0 aa; au ex. 5 SOA"},
		row{"*.w.ex.", "TXT", `rcode 0 aa; an *.w.ex. 60 TXT "hello"`},
		row{"gr.ex.", "DNAME", "rcode 0 aa; an gr.ex. 60 DNAME al.ex."},
		row{"gr.ex.", "A", "rcode 0 aa; au ex. 5 SOA"},
	)
}

// Signatures stand right behind their sets.
const (
	soaSigned = "au ex. 5 SOA; au ex. 60 RRSIG SOA"
	signedWww = "an WWW.ex. 60 A 10.0.0.1; an WWW.ex. 60 RRSIG A"
	nsecApex  = "au ex. 5 NSEC al.ex.; au ex. 5 RRSIG NSEC"
	nsecStar  = "au *.al.ex. 5 NSEC b.ex.; au *.al.ex. 5 RRSIG NSEC"
	nsecC     = "au c.ex. 5 NSEC e.d.ex.; au c.ex. 5 RRSIG NSEC"
	nsecW     = "au *.w.ex. 5 NSEC www.ex.; au *.w.ex. 5 RRSIG NSEC"
	nsecWww   = "au www.ex. 5 NSEC ex.; au www.ex. 5 RRSIG NSEC"
)

func TestKindsProved(t *testing.T) {
	check(t, []*zone.Zone{signed("ex.", false, example()...)}, true,
		row{"www.ex.", "A", "rcode 0 aa; " + signedWww},
		row{"www.ex.", "TXT", "rcode 0 aa; " + soaSigned + "; " + nsecWww},
		row{"d.ex.", "A", "rcode 0 aa; " + soaSigned + "; " + nsecC},
		row{"x.ex.", "A", "rcode 3 aa; " + soaSigned + "; " + nsecApex + "; " + nsecWww},
		row{"ax.ex.", "A", "rcode 3 aa; " + soaSigned + "; " + nsecApex + "; " + nsecStar},
		row{"al.ex.", "A", "rcode 0 aa; an al.ex. 60 CNAME www.ex.; an al.ex. 60 RRSIG CNAME; " + signedWww},
		row{"al.ex.", "TXT", "rcode 0 aa; an al.ex. 60 CNAME www.ex.; an al.ex. 60 RRSIG CNAME; " + soaSigned + "; " + nsecWww},
		// A referral: the DS, or the proof that there are none.
		row{"x.b.ex.", "A", referral + "; au b.ex. 5 NSEC c.ex.; au b.ex. 5 RRSIG NSEC" + glue},
		row{"c.ex.", "A", "rcode 0; au c.ex. 60 NS ns.c.ex.; au c.ex. 60 DS 1 253 1 aa; au c.ex. 60 DS 2 253 1 bb; au c.ex. 60 RRSIG DS; ad ns.c.ex. 60 A 10.0.0.4"},
		row{"b.ex.", "DS", "rcode 0 aa; " + soaSigned + "; au b.ex. 5 NSEC c.ex.; au b.ex. 5 RRSIG NSEC"},
		row{"c.ex.", "DS", "rcode 0 aa; an c.ex. 60 DS 1 253 1 aa; an c.ex. 60 DS 2 253 1 bb; an c.ex. 60 RRSIG DS"},
		// A star: its signatures are told of the name that was asked for.
		row{"X.y.W.ex.", "TXT", `rcode 0 aa; an X.y.W.ex. 60 TXT "hello"; an X.y.W.ex. 60 RRSIG TXT; ` + nsecW},
		row{"*.w.ex.", "TXT", `rcode 0 aa; an *.w.ex. 60 TXT "hello"; an *.w.ex. 60 RRSIG TXT`},
		row{"x.w.ex.", "AAAA", "rcode 0 aa; " + soaSigned + "; " + nsecW},
		// What is proved of the first name stands ahead of what is said of the next.
		row{"x.al.ex.", "A", "rcode 0 aa; an x.al.ex. 60 CNAME www.ex.; an x.al.ex. 60 RRSIG CNAME; " + signedWww + "; " + nsecStar},
		row{"x.al.ex.", "TXT", "rcode 0 aa; an x.al.ex. 60 CNAME www.ex.; an x.al.ex. 60 RRSIG CNAME; " + nsecStar + "; " + soaSigned + "; " + nsecWww},
		// A made alias isn't signed.
		row{"gr.ex.", "DNAME", "rcode 0 aa; an gr.ex. 60 DNAME al.ex.; an gr.ex. 60 RRSIG DNAME"},
		row{"y.gr.ex.", "CNAME", "rcode 0 aa; an gr.ex. 60 DNAME al.ex.; an gr.ex. 60 RRSIG DNAME; an y.gr.ex. 60 CNAME y.al.ex.; an y.al.ex. 60 CNAME www.ex.; an y.al.ex. 60 RRSIG CNAME; " + nsecStar},
	)
}

// TestAnySigned: signatures are among what ANY and RRSIG ask for, and stand by
// nothing else then.
func TestAnySigned(t *testing.T) {
	zones := []*zone.Zone{signed("ex.", false, "a TXT x", "a A 10.0.0.1", "al CNAME a", "*.w A 10.0.0.2", "*.w TXT y")}
	const w = "; au *.w.ex. 5 NSEC ex.; au *.w.ex. 5 RRSIG NSEC"
	check(t, zones, true,
		row{"a.ex.", "ANY", `rcode 0 aa; an a.ex. 60 A 10.0.0.1; an a.ex. 60 TXT "x"; an a.ex. 60 RRSIG A; an a.ex. 60 RRSIG TXT; an a.ex. 5 RRSIG NSEC; an a.ex. 5 NSEC al.ex.`},
		row{"a.ex.", "RRSIG", "rcode 0 aa; an a.ex. 60 RRSIG A; an a.ex. 60 RRSIG TXT; an a.ex. 5 RRSIG NSEC"},
		row{"a.ex.", "NSEC", "rcode 0 aa; an a.ex. 5 NSEC al.ex.; an a.ex. 5 RRSIG NSEC"},
		row{"al.ex.", "RRSIG", "rcode 0 aa; an al.ex. 60 CNAME a.ex.; an al.ex. 60 RRSIG CNAME; an a.ex. 60 RRSIG A; an a.ex. 60 RRSIG TXT; an a.ex. 5 RRSIG NSEC"},
		row{"b.w.ex.", "ANY", `rcode 0 aa; an b.w.ex. 60 A 10.0.0.2; an b.w.ex. 60 TXT "y"; an b.w.ex. 60 RRSIG A; an b.w.ex. 60 RRSIG TXT; an b.w.ex. 5 RRSIG NSEC; an b.w.ex. 5 NSEC ex.` + w},
		row{"b.w.ex.", "RRSIG", "rcode 0 aa; an b.w.ex. 60 RRSIG A; an b.w.ex. 60 RRSIG TXT; an b.w.ex. 5 RRSIG NSEC" + w},
		row{"b.w.ex.", "NSEC", "rcode 0 aa; an b.w.ex. 5 NSEC ex.; an b.w.ex. 5 RRSIG NSEC" + w},
	)
	check(t, zones, false,
		row{"a.ex.", "RRSIG", "rcode 0 aa; an a.ex. 60 RRSIG A; an a.ex. 60 RRSIG TXT; an a.ex. 5 RRSIG NSEC"},
		row{"a.ex.", "A", "rcode 0 aa; an a.ex. 60 A 10.0.0.1"},
		row{"b.w.ex.", "A", "rcode 0 aa; an b.w.ex. 60 A 10.0.0.2"},
		row{"x.ex.", "A", "rcode 3 aa; au ex. 5 SOA"},
	)
}

// TestSignatures: which of those that stand at a name go with a set.
func TestSignatures(t *testing.T) {
	sig := func(owner, typ, more string) string { return owner + " 70 RRSIG " + typ + more }
	zones := []*zone.Zone{plain("ex.",
		"a A 10.0.0.1", sig("A", "A", " 253 2 60 200 100 2 ex. AAAB"), sig("a", "A", " 253 2 60 200 100 1 ex. AAAB"), sig("a", "TXT", " 253 2 60 200 100 1 ex. AAAB"),
		sig("a", "TYPE257", " 253 2 60 200 100 1 ex. AAAB"), sig("b", "A", " 253 2 60 200 100 1 ex. AAAB"), sig("@", "SOA", " 1 2 3 4 5 6 org. AAAB"), sig("@", "NS", " 1 2 3 4 5 6 org. AAAB"),
		sig("e", "NS", " 1 2 3 4 5 6 org. AAAB"), "e NS ns.e", "ns.e A 10.0.0.2", sig("ns.e", "A", " 1 2 3 4 5 6 org. AAAB"))}
	check(t, zones, true,
		// By the order of the zone, in its letters; of this type alone.
		row{"a.ex.", "A", "rcode 0 aa; an a.ex. 60 A 10.0.0.1; an a.ex. 70 RRSIG A; an A.ex. 70 RRSIG A"},
		// Without proofs that could be made there are signatures all the same.
		row{"x.ex.", "A", "rcode 3 aa; au ex. 5 SOA; au ex. 70 RRSIG SOA"},
		row{"b.ex.", "A", "rcode 0 aa; au ex. 5 SOA; au ex. 70 RRSIG SOA"},
		row{"ex.", "NS", "rcode 0 aa; an ex. 60 NS ns.org.; an ex. 70 RRSIG NS"},
		// Not of NS at a cut, and not of glue.
		row{"x.e.ex.", "A", "rcode 0; au e.ex. 60 NS ns.e.ex.; ad ns.e.ex. 60 A 10.0.0.2"},
	)
}

// TestSetsOfProofs: two proofs of one owner are one set.
func TestSetsOfProofs(t *testing.T) {
	zones := []*zone.Zone{plain("ex.", "@ 9 NSEC b A", "@ 9 NSEC d MX", "d 9 NSEC @ A", "@ 9 RRSIG NSEC 253 1 9 200 100 1 ex. AAAB", "d 9 RRSIG NSEC 253 2 9 200 100 1 ex. AAAB")}
	check(t, zones, true,
		row{"c.ex.", "A", "rcode 3 aa; au ex. 5 SOA; au ex. 9 NSEC b.ex.; au ex. 9 NSEC d.ex.; au ex. 9 RRSIG NSEC"},
		row{"e.ex.", "A", "rcode 3 aa; au ex. 5 SOA; au ex. 9 NSEC b.ex.; au ex. 9 RRSIG NSEC; au d.ex. 9 NSEC ex.; au d.ex. 9 RRSIG NSEC"},
	)
}

// TestHashed: proofs by hashes, with their signatures.
func TestHashed(t *testing.T) {
	z := signed("ex.", true, example()...)
	for q, want := range map[string]int{"x.ex.": 3, "www.ex.": 1, "d.ex.": 1, "a.x.al.ex.": 1, "b.ex.": 1} {
		typ := "TXT"
		if q == "b.ex." {
			typ = "DS"
		}
		a := said(t, []*zone.Zone{z}, proved(ask(q, typ)))
		proofs := 0
		for i, r := range a.Authority {
			if r.Type != api.NSEC3 {
				continue
			}
			proofs++
			next := a.Authority[i+1]
			if next.Type != api.RRSIG || next.Owner != r.Owner || next.Data[:2] != "\x00\x32" {
				t.Errorf("P9.1 of %s: behind an NSEC3 stands %s", q, told(next))
			}
		}
		// Two may be one, where a hash covers two names.
		if proofs == 0 || proofs > want+1 {
			t.Errorf("P9.1 of %s: %d NSEC3, wanted some %d: %q", q, proofs, want, tell(a))
		}
	}
}

// TestSoaAge: the smaller one of the age and the minimum.
func TestSoaAge(t *testing.T) {
	for soa, want := range map[string]string{
		"@ 60 SOA ns h 1 2 3 4 59":                 "59",
		"@ 60 SOA ns h 1 2 3 4 60":                 "60",
		"@ 60 SOA ns h 1 2 3 4 61":                 "60",
		"@ 0 SOA ns h 1 2 3 4 61":                  "0",
		"@ 60 SOA ns h 1 2 3 4 0":                  "0",
		"@ 2147483647 SOA ns h 1 2 3 4 4294967295": "2147483647",
		"@ 2147483647 SOA ns h 1 2 3 4 2147483646": "2147483646",
	} {
		zones := []*zone.Zone{bare("ex.", soa, "@ NS ns", "ns AAAA ::1")}
		check(t, zones, false,
			row{"x.ex.", "A", "rcode 3 aa; au ex. " + want + " SOA"},
			row{"ns.ex.", "A", "rcode 0 aa; au ex. " + want + " SOA"},
		)
	}
}

// TestLetters: names of the question in its own letters, records in the zone's.
func TestLetters(t *testing.T) {
	zones := []*zone.Zone{bare("eX.", "@ SOA Ns h 7 2 3 4 5", "@ NS Ns", "Ns A 10.0.0.1", "Al CNAME nS", "*.W MX 1 nS", "Gr DNAME W", "B NS Ns.B", "Ns.b A 10.0.0.2")}
	check(t, zones, false,
		row{"NS.EX.", "A", "rcode 0 aa; an Ns.eX. 60 A 10.0.0.1"},
		row{"AL.EX.", "A", "rcode 0 aa; an Al.eX. 60 CNAME nS.eX.; an Ns.eX. 60 A 10.0.0.1"},
		row{"A.w.EX.", "MX", "rcode 0 aa; an A.w.EX. 60 MX 1 nS.eX.; ad Ns.eX. 60 A 10.0.0.1"},
		row{"A.GR.EX.", "MX", "rcode 0 aa; an Gr.eX. 60 DNAME W.eX.; an A.GR.EX. 60 CNAME A.W.eX.; an A.W.eX. 60 MX 1 nS.eX.; ad Ns.eX. 60 A 10.0.0.1"},
		row{"X.b.EX.", "A", "rcode 0; au B.eX. 60 NS Ns.B.eX.; ad Ns.b.eX. 60 A 10.0.0.2"},
		row{"X.EX.", "A", "rcode 3 aa; au eX. 5 SOA"},
	)
}
