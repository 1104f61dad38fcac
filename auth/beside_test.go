package auth_test

import (
	"testing"

	"gazetteer/zone"
)

// What stands beside the answers: the addresses of those that they name.

func TestAddresses(t *testing.T) {
	zones := []*zone.Zone{
		bare("ex.", "@ SOA ns h 7 2 3 4 5", "@ NS ns", "@ NS ns.org.", "@ NS x.w", "ns AAAA ::1", "ns A 10.0.0.2", "ns A 10.0.0.1",
			"m MX 9 ns", "m MX 10 al", "m MX 11 gone", "m MX 12 x.b", "m MX 13 .", "m MX 14 w", "m MX 15 X.w", "m MX 16 a.org.", "m MX 17 a.net.", "m MX 18 NS",
			"s SRV 1 2 3 a.org.", "s SRV 1 2 4 x.gr", "p PTR ns", "na NAPTR 1 2 s s s ns", "al CNAME ns", "gr DNAME org.", "b NS x.b", "x.b A 10.0.0.3", "*.w A 10.0.0.4",
			"any NS ns", "both MX 1 both", "both A 10.0.0.5", "both AAAA ::5", "st TXT st", "*.st MX 1 q.st", "*.st A 10.0.0.6", "lead CNAME m2", "m2 MX 1 a.org."),
		plain("org.", "a AAAA ::9", "ns A 10.0.0.9"),
	}
	const ns = "; ad ns.ex. 60 A 10.0.0.1; ad ns.ex. 60 A 10.0.0.2; ad ns.ex. 60 AAAA ::1"
	check(t, zones, false,
		row{"ex.", "NS", "rcode 0 aa; an ex. 60 NS x.w.ex.; an ex. 60 NS ns.ex.; an ex. 60 NS ns.org.; ad x.w.ex. 60 A 10.0.0.4" + ns + "; ad ns.org. 60 A 10.0.0.9"},
		// Not of an alias, a name that isn't there, another zone's, the root, a star's own;
		// each record once.
		row{"m.ex.", "MX", "rcode 0 aa; an m.ex. 60 MX 9 ns.ex.; an m.ex. 60 MX 10 al.ex.; an m.ex. 60 MX 11 gone.ex.; an m.ex. 60 MX 12 x.b.ex.; an m.ex. 60 MX 13 .; an m.ex. 60 MX 14 w.ex.; an m.ex. 60 MX 15 X.w.ex.; an m.ex. 60 MX 16 a.org.; an m.ex. 60 MX 17 a.net.; an m.ex. 60 MX 18 NS.ex." + ns + "; ad X.w.ex. 60 A 10.0.0.4; ad a.org. 60 AAAA ::9"},
		row{"s.ex.", "SRV", "rcode 0 aa; an s.ex. 60 SRV 1 2 3 a.org.; an s.ex. 60 SRV 1 2 4 x.gr.ex.; ad a.org. 60 AAAA ::9"},
		// No other names lead to addresses.
		row{"p.ex.", "PTR", "rcode 0 aa; an p.ex. 60 PTR ns.ex."},
		row{"na.ex.", "NAPTR", `rcode 0 aa; an na.ex. 60 NAPTR 1 2 "s" "s" "s" ns.ex.`},
		row{"ex.", "SOA", "rcode 0 aa; an ex. 60 SOA"},
		row{"al.ex.", "CNAME", "rcode 0 aa; an al.ex. 60 CNAME ns.ex."},
		// What stands among the answers doesn't stand twice.
		row{"both.ex.", "ANY", "rcode 0 aa; an both.ex. 60 A 10.0.0.5; an both.ex. 60 MX 1 both.ex.; an both.ex. 60 AAAA ::5"},
		row{"both.ex.", "MX", "rcode 0 aa; an both.ex. 60 MX 1 both.ex.; ad both.ex. 60 A 10.0.0.5; ad both.ex. 60 AAAA ::5"},
		row{"Q.st.ex.", "ANY", "rcode 0 aa; an Q.st.ex. 60 A 10.0.0.6; an Q.st.ex. 60 MX 1 q.st.ex."},
		row{"r.st.ex.", "ANY", "rcode 0 aa; an r.st.ex. 60 A 10.0.0.6; an r.st.ex. 60 MX 1 q.st.ex.; ad q.st.ex. 60 A 10.0.0.6"},
		// Behind an alias, too.
		row{"lead.ex.", "MX", "rcode 0 aa; an lead.ex. 60 CNAME m2.ex.; an m2.ex. 60 MX 1 a.org.; ad a.org. 60 AAAA ::9"},
	)
}

func TestAddressesSigned(t *testing.T) {
	zones := []*zone.Zone{
		signed("ex.", false, "ns A 10.0.0.1", "ns AAAA ::1", "m MX 1 ns", "m MX 2 x.w", "m MX 3 a.org.", "*.w A 10.0.0.4", "any MX 1 any", "any A 10.0.0.5"),
		plain("org.", "a A 10.0.0.2"),
	}
	check(t, zones, true,
		row{"m.ex.", "MX", "rcode 0 aa; an m.ex. 60 MX 1 ns.ex.; an m.ex. 60 MX 2 x.w.ex.; an m.ex. 60 MX 3 a.org.; an m.ex. 60 RRSIG MX" +
			"; ad ns.ex. 60 A 10.0.0.1; ad ns.ex. 60 RRSIG A; ad ns.ex. 60 AAAA ::1; ad ns.ex. 60 RRSIG AAAA; ad x.w.ex. 60 A 10.0.0.4; ad x.w.ex. 60 RRSIG A; ad a.org. 60 A 10.0.0.2"},
		row{"any.ex.", "MX", "rcode 0 aa; an any.ex. 60 MX 1 any.ex.; an any.ex. 60 RRSIG MX; ad any.ex. 60 A 10.0.0.5; ad any.ex. 60 RRSIG A"},
		// All of it stands among the answers already.
		row{"any.ex.", "ANY", "rcode 0 aa; an any.ex. 60 A 10.0.0.5; an any.ex. 60 MX 1 any.ex.; an any.ex. 60 RRSIG A; an any.ex. 60 RRSIG MX; an any.ex. 5 RRSIG NSEC; an any.ex. 5 NSEC m.ex."},
	)
	// ANY: the answers have no signatures behind them, the addresses have.
	zones = []*zone.Zone{signed("ex.", false, "ns A 10.0.0.1", "m MX 1 ns")}
	check(t, zones, true, row{"m.ex.", "ANY", "rcode 0 aa; an m.ex. 60 MX 1 ns.ex.; an m.ex. 60 RRSIG MX; an m.ex. 5 RRSIG NSEC; an m.ex. 5 NSEC ns.ex.; ad ns.ex. 60 A 10.0.0.1; ad ns.ex. 60 RRSIG A"})
}

// TestOnce: what is like stands once, whatever its letters and its age.
func TestOnce(t *testing.T) {
	zones := []*zone.Zone{
		bare("b.ex.", "@ SOA ns h 7 2 3 4 5", "@ NS NS.B.ex.", "al CNAME x.c.ex."),
		plain("ex.", "c NS ns.c", "c NS NS.C.d.ex.", "ns.c A 10.0.0.1", "NS.c.d A 10.0.0.1", "ns.c.d AAAA ::1", "c2 NS ns.c", "m MX 1 h", "m MX 2 H", "m SRV 1 1 1 h", "h A 10.0.0.2"),
	}
	check(t, zones, false,
		row{"al.b.ex.", "A", "rcode 0 aa; an al.b.ex. 60 CNAME x.c.ex.; au c.ex. 60 NS NS.C.d.ex.; au c.ex. 60 NS ns.c.ex.; ad NS.c.d.ex. 60 A 10.0.0.1; ad ns.c.d.ex. 60 AAAA ::1; ad ns.c.ex. 60 A 10.0.0.1"},
		row{"m.ex.", "ANY", "rcode 0 aa; an m.ex. 60 MX 1 h.ex.; an m.ex. 60 MX 2 H.ex.; an m.ex. 60 SRV 1 1 1 h.ex.; ad h.ex. 60 A 10.0.0.2"},
	)
	// A zone and the one above it tell the same proof, with other ages.
	zones = []*zone.Zone{
		plain("ex.", "@ 9 NSEC b.ex. NS", "b NS ns.b", "b 9 NSEC b.ex. NS SOA", "*.c CNAME x.b"),
		plain("b.ex.", "@ 8 NSEC B.EX. NS SOA"),
	}
	check(t, zones, true,
		row{"q.c.ex.", "A", "rcode 3 aa; an q.c.ex. 60 CNAME x.b.ex.; au b.ex. 9 NSEC b.ex.; au b.ex. 5 SOA"},
		row{"x.b.ex.", "A", "rcode 3 aa; au b.ex. 5 SOA; au b.ex. 8 NSEC B.EX."},
	)
}
